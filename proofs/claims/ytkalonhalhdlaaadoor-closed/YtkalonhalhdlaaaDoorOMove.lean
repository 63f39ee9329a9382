/-
  Two stations while frames may be lost: what each move keeps, and how much it adds to all that is to come; what holds once the timers have run out.
-/
import Derived.Test.YtkalonhalhdlaaaDoorOFlow4
namespace Go.Proofs.YtkalonhalhdlaaaDoor
open Go

/-- What is on its way says last whether its sender is busy. -/
def Says (c : Cfg) (n : Gn) (L : List GF) : Prop := (∀ x, lastp x L = x) ∨ ∀ x, lastp x L = gHeld c n
structure Pk.mi (c : Nat → Cfg) (p : Pk) (w : Nat) : Prop where
  inv : p.inv c
  si : ∀ i, i < 2 → (p.n i).si (c i)
  says : ∀ i, i < 2 → Says (c i) (p.n i) (p.L i)
  pot : p.pot 0 10 20 8 19 ≤ w
section
variable {c : Nat → Cfg} {p : Pk} {i w : Nat}
theorem Says.step {c : Cfg} {n n' : Gn} {L fs : List GF} (h : Says c n L) (ha : Ann c n n' fs) : Says c n' (L ++ fs) := by
  rcases ha with a | ⟨a1, a2⟩
  · exact .inr fun x => by rw [lastp_append]; exact a _
  · rcases h with h | h
    · exact .inl fun x => by rw [lastp_append, a1, h]
    · exact .inr fun x => by rw [lastp_append, a1, h, a2]
theorem Says.tail {c : Cfg} {n : Gn} {g : GF} {L : List GF} (h : Says c n (g :: L)) : Says c n L := by
  rcases lastp_cases L with z | ⟨b, z⟩
  · exact .inl z
  · have e : ∀ x, lastp x (g :: L) = b := fun x => z _
    rcases h with h | h
    · have t1 := (h true).symm.trans (e true)
      have t2 := (h false).symm.trans (e false)
      rw [← t1] at t2
      cases t2
    · right
      intro x
      rw [z x, ← e true, h true]
/-- A call that hears nothing. -/
theorem Pk.mi.step (h : p.mi c w) (hi : i < 2) {r : Gn × List GF} {y : Nat} (hv : (p.step i r).inv c) (hs : r.1.si (c i)) (ha : Ann (c i) (p.n i) r.1 r.2) (hp : sp 0 r.1 + wtL 10 20 r.2 + rp 8 19 (p.n (1 - i)).gv.length r.1 + 8 * (r.1.gv.length - (p.n i).gv.length) ≤ sp 0 (p.n i) + rp 8 19 (p.n (1 - i)).gv.length (p.n i) + y) : (p.step i r).mi c (w + y) := by
  have hne : 1 - i ≠ i := by omega
  have n1 : (p.step i r).n i = r.1 := upd_same _ _ _
  have n2 : (p.step i r).n (1 - i) = p.n (1 - i) := upd_other _ _ hne
  have L1 : (p.step i r).L i = p.L i ++ r.2 := upd_same _ _ _
  have L2 : (p.step i r).L (1 - i) = p.L (1 - i) := upd_other _ _ hne
  refine ⟨hv, both hi ?_ ?_, both hi ?_ ?_, ?_⟩
  · rw [n1]; exact hs
  · rw [n2]; exact h.si _ (by omega)
  · rw [n1, L1]; exact (h.says i hi).step ha
  · rw [n2, L2]; exact h.says _ (by omega)
  · have hp0 := h.pot
    rw [Pk.pot_both 0 10 20 8 19 hi] at hp0 ⊢
    unfold Pk.pot1 at hp0 ⊢
    rw [one_one hi] at hp0 ⊢
    rw [n1, n2, L1, L2, wtL_append]
    have hr : rp 8 19 r.1.gv.length (p.n (1 - i)) ≤ rp 8 19 (p.n i).gv.length (p.n (1 - i)) + 8 * (r.1.gv.length - (p.n i).gv.length) := by
      unfold rp
      omega
    omega
theorem Pk.mi.mono {y : Nat} (h : p.mi c w) (hy : w ≤ y) : p.mi c y := ⟨h.inv, h.si, h.says, Nat.le_trans h.pot hy⟩
theorem Pk.mi.busy (h : p.mi c w) (hi : i < 2) (on : Bool) : (p.busy c i on).mi c (w + 1) := by
  refine h.step hi (h.inv.step hi (gBusy_step (h.inv.ok i hi) on) rfl rfl rfl) (gBusy_si (h.si i hi) on) (gBusy_ann on) ?_
  have := (gChange_wt (c := c i) 10 20 (gHeld (c i) (p.n i)) { p.n i with busy := on }).1
  show sp 0 (p.n i) + wtL 10 20 (gChange (c i) (gHeld (c i) (p.n i)) { p.n i with busy := on }) + rp 8 19 _ (p.n i) + 8 * ((p.n i).gv.length - (p.n i).gv.length) ≤ _
  omega
theorem Pk.mi.take (h : p.mi c w) (hi : i < 2) : (p.take c i).mi c (w + 1) := by
  have hv := h.inv.taken hi
  have q : (p.step i (gTaken (c i) (p.n i))).mi c (w + 1) ∨ True := .inr trivial
  clear q
  have hne : 1 - i ≠ i := by omega
  have n1 : (p.take c i).n i = (gTaken (c i) (p.n i)).1 := upd_same _ _ _
  have n2 : (p.take c i).n (1 - i) = p.n (1 - i) := upd_other _ _ hne
  have L1 : (p.take c i).L i = p.L i ++ (gTaken (c i) (p.n i)).2 := upd_same _ _ _
  have L2 : (p.take c i).L (1 - i) = p.L (1 - i) := upd_other _ _ hne
  refine ⟨hv, both hi ?_ ?_, both hi ?_ ?_, ?_⟩
  · rw [n1]; exact gTaken_si (h.si i hi)
  · rw [n2]; exact h.si _ (by omega)
  · rw [n1, L1]; exact (h.says i hi).step gTaken_ann
  · rw [n2, L2]; exact h.says _ (by omega)
  · have hp0 := h.pot
    rw [Pk.pot_both 0 10 20 8 19 hi] at hp0 ⊢
    unfold Pk.pot1 at hp0 ⊢
    rw [one_one hi] at hp0 ⊢
    rw [n1, n2, L1, L2, wtL_append]
    have := (gChange_wt (c := c i) 10 20 (gHeld (c i) (p.n i)) { p.n i with came := [] }).1
    show sp 0 (p.n i) + rp 8 19 _ (p.n i) + (_ + wtL 10 20 (gChange (c i) (gHeld (c i) (p.n i)) { p.n i with came := [] })) + (sp 0 (p.n (1 - i)) + rp 8 19 (p.n i).gv.length (p.n (1 - i)) + _) ≤ _
    omega
theorem Pk.mi.lose (h : p.mi c w) (hi : i < 2) : (p.lose i).mi c w := by
  have hne : 1 - i ≠ i := by omega
  have L1 : (p.lose i).L i = (p.L i).tail := upd_same _ _ _
  have L2 : (p.lose i).L (1 - i) = p.L (1 - i) := upd_other _ _ hne
  refine ⟨h.inv.lost hi, h.si, both hi ?_ ?_, ?_⟩
  · rw [L1]
    have := h.says i hi
    cases e : p.L i with
    | nil => rw [e] at this; exact this
    | cons g r => rw [e] at this; exact this.tail
  · rw [L2]; exact h.says _ (by omega)
  · have hp0 := h.pot
    rw [Pk.pot_both 0 10 20 8 19 hi] at hp0 ⊢
    unfold Pk.pot1 at hp0 ⊢
    rw [one_one hi] at hp0 ⊢
    rw [L1, L2]
    show sp 0 (p.n i) + rp 8 19 (p.n (1 - i)).gv.length (p.n i) + wtL 10 20 (p.L i).tail + (sp 0 (p.n (1 - i)) + rp 8 19 (p.n i).gv.length (p.n (1 - i)) + wtL 10 20 (p.L (1 - i))) ≤ w
    have ht : wtL 10 20 (p.L i).tail ≤ wtL 10 20 (p.L i) := by
      cases p.L i with
      | nil => exact Nat.le_refl _
      | cons g r => show wtL 10 20 r ≤ wtG 10 20 g + wtL 10 20 r; omega
    omega
theorem Pk.mi.hand (h : p.mi c w) (hT : Two c) (hi : i < 2) : (p.hand c i).mi c (w + 10) := by
  have hv := h.inv.heard hT hi
  cases hL : p.L i with
  | nil =>
    have e : p.hand c i = p := by unfold Pk.hand; rw [hL]
    rw [e]
    exact h.mono (by omega)
  | cons g r =>
    have hj : 1 - i < 2 := by omega
    have hne : 1 - i ≠ i := by omega
    have hne' : i ≠ 1 - i := by omega
    have e : p.hand c i = Pk.step { p with L := upd p.L i r } (1 - i) (gHear (c (1 - i)) g (p.n (1 - i))) := by unfold Pk.hand; rw [hL]
    obtain ⟨f0, f1, f2, _⟩ := h.inv.fits hT hi hL
    have hok := h.inv.ok _ hj
    have hw := h.inv.way i hi
    rw [hL] at hw
    have n1 : (p.hand c i).n i = p.n i := by rw [e]; exact upd_other _ _ hne'
    have n2 : (p.hand c i).n (1 - i) = (gHear (c (1 - i)) g (p.n (1 - i))).1 := by rw [e]; exact upd_same _ _ _
    have L1 : (p.hand c i).L i = r := by rw [e]; show upd (upd p.L i r) (1 - i) _ i = r; rw [upd_other _ _ hne', upd_same]
    have L2 : (p.hand c i).L (1 - i) = p.L (1 - i) ++ (gHear (c (1 - i)) g (p.n (1 - i))).2 := by rw [e]; show upd (upd p.L i r) (1 - i) (upd p.L i r (1 - i) ++ _) (1 - i) = _; rw [upd_same, upd_other _ _ hne]
    have hgv := gHear_gv hok f1 f2
    have hs := h.says i hi
    rw [hL] at hs
    refine ⟨hv, both hi ?_ ?_, both hi ?_ ?_, ?_⟩
    · rw [n1]; exact h.si i hi
    · rw [n2]; exact gHear_si (hT.ok _ hj) hok (h.si _ hj) f1 f2
    · rw [n1, L1]; exact hs.tail
    · rw [n2, L2]; exact (h.says _ hj).step (gHear_ann g)
    · have hp0 := h.pot
      rw [Pk.pot_both 0 10 20 8 19 hi] at hp0 ⊢
      unfold Pk.pot1 at hp0 ⊢
      rw [one_one hi] at hp0 ⊢
      rw [n1, n2, L1, L2, wtL_append, hgv]
      rw [hL] at hp0
      have hN : g.k = 1 → g.ns = (p.n (1 - i)).RV → (p.n (1 - i)).RV < (p.n i).gv.length := fun e1 e2 => by
        have := (hw.isn g (List.mem_cons_self ..) e1).1
        have := (h.inv.ok i hi).vmn
        omega
      have q := hear_move (N := (p.n i).gv.length) (hT.ok _ hj) hok f0 f1 f2 hN
      have hp1 : sp 0 (p.n i) + rp 8 19 (p.n (1 - i)).gv.length (p.n i) + (wtG 10 20 g + wtL 10 20 r) + (sp 0 (p.n (1 - i)) + rp 8 19 (p.n i).gv.length (p.n (1 - i)) + wtL 10 20 (p.L (1 - i))) ≤ w := hp0
      omega
theorem Pk.mi.give (h : p.mi c w) (hT : Two c) (hi : i < 2) : (p.give c i).mi c (w + 10) := by
  have hm : (msgL i (p.n i).gv.length).length ≤ 32 := by rw [msgL_length]; omega
  obtain ⟨st, h1, h2, h3, _⟩ := gSend_step (h.inv.ok i hi) hm
  obtain ⟨q1, q2, q3⟩ := send_pot (h.inv.ok i hi) _ hm (p.n (1 - i)).gv.length
  exact h.step hi (h.inv.step hi st h1 h2 h3) (gSend_si (hT.ok i hi) (h.si i hi) _) (gSend_ann _) (by omega)
theorem Pk.mi.tick (h : p.mi c w) (hT : Two c) (hi : i < 2) {q : Pk} (hq : p.tick c i = some q) : q.mi c (w + 10) := by
  unfold Pk.tick at hq
  cases hr : gTick (c i) (p.n i) with
  | none => rw [hr] at hq; cases hq
  | some r =>
    rw [hr] at hq
    cases hq
    obtain ⟨st, h1, h2, h3⟩ := gTick_step (h.inv.ok i hi) hr
    obtain ⟨t1, _, t3⟩ := tick_pot hr
    have hgv : r.1.gv = (p.n i).gv := by
      unfold gTick at hr
      split at hr
      · cases hr; rfl
      · split at hr
        · split at hr
          · cases hr
          · cases hr; rfl
        · cases hr; rfl
    refine h.step hi (h.inv.step hi st h1 h2 h3) (gTick_si (hT.ok i hi) (h.si i hi) hr) (gTick_ann hr) ?_
    rw [t3, hgv]
    omega
theorem Pk.mi.moved (h : p.mi c w) (hT : Two c) (hi : i < 2) {kd : Nat} {on : Bool} {q : Pk} (hq : p.move c kd i on = some q) : q.mi c (w + 10) := by
  unfold Pk.move at hq
  split at hq
  · cases hq; exact h.give hT hi
  · split at hq
    · cases hq; exact (h.lose hi).mono (by omega)
    · split at hq
      · cases hq; exact (h.take hi).mono (by omega)
      · split at hq
        · exact h.tick hT hi hq
        · split at hq
          · cases hq; exact (h.busy hi on).mono (by omega)
          · cases hq; exact h.hand hT hi
end
end Go.Proofs.YtkalonhalhdlaaaDoor
