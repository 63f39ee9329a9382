/-
  The link and the two stations whose numbers do not go round: each move is one of theirs.
-/
import Derived.Test.YtkalonhalhdlaaaDoorOGhosts
import Derived.Test.YtkalonhalhdlaaaDoorKFines
namespace Go.Proofs.YtkalonhalhdlaaaDoor
open Go

structure Pk where
  n : Nat → Gn
  L : Nat → List GF
  t : Nat → Nat
def Pk.step (p : Pk) (i : Nat) (r : Gn × List GF) : Pk := { p with n := upd p.n i r.1, L := upd p.L i (p.L i ++ r.2) }
def Pk.hand (c : Nat → Cfg) (p : Pk) (i : Nat) : Pk :=
  match p.L i with
  | [] => p
  | g :: r => Pk.step { p with L := upd p.L i r } (1 - i) (gHear (c (1 - i)) g (p.n (1 - i)))
def Pk.lose (p : Pk) (i : Nat) : Pk := { p with L := upd p.L i (p.L i).tail }
def Pk.take (c : Nat → Cfg) (p : Pk) (i : Nat) : Pk := { p.step i (gTaken (c i) (p.n i)) with t := upd p.t (1 - i) (p.n i).RV }
def Pk.busy (c : Nat → Cfg) (p : Pk) (i : Nat) (on : Bool) : Pk := p.step i (gBusy (c i) on (p.n i))
def Pk.give (c : Nat → Cfg) (p : Pk) (i : Nat) : Pk := p.step i (gSend (c i) (msgL i (p.n i).gv.length) (p.n i))
def Pk.tick (c : Nat → Cfg) (p : Pk) (i : Nat) : Option Pk := (gTick (c i) (p.n i)).map (p.step i)
def Pk.move (c : Nat → Cfg) (p : Pk) (kd i : Nat) (on : Bool) : Option Pk :=
  if kd < 3 then some (p.give c i) else if kd = 7 then some (p.lose i) else if kd = 8 then some (p.take c i) else if kd = 9 then p.tick c i else if kd = 10 then some (p.busy c i on) else some (p.hand c i)

/-- Two configurations that go together. -/
structure Two (c : Nat → Cfg) : Prop where
  ok : ∀ i, i < 2 → (c i).ok
  m : ∀ i, i < 2 → (c (1 - i)).m = (c i).m
  win : ∀ i, i < 2 → (c (1 - i)).win = (c i).win
  addr : ∀ i, i < 2 → (c i).addr + (c (1 - i)).addr = 4
structure Pk.inv (c : Nat → Cfg) (p : Pk) : Prop where
  ok : ∀ i, i < 2 → (p.n i).ok (c i)
  way : ∀ i, i < 2 → Way2 (c i) (p.n i) (p.n (1 - i)) (p.t i) (p.L i)

theorem one_one {i : Nat} (h : i < 2) : 1 - (1 - i) = i := by omega
theorem both {P : Nat → Prop} {i : Nat} (hi : i < 2) (h1 : P i) (h2 : P (1 - i)) : ∀ j, j < 2 → P j := by
  intro j hj
  by_cases e : j = i
  · rw [e]; exact h1
  · rw [show j = 1 - i by omega]; exact h2
section
variable {c : Nat → Cfg} {p : Pk} {i : Nat}
theorem Pk.inv.back (h : p.inv c) (hi : i < 2) : Way2 (c (1 - i)) (p.n (1 - i)) (p.n i) (p.t (1 - i)) (p.L (1 - i)) := by
  have := h.way (1 - i) (by omega)
  rw [one_one hi] at this
  exact this
/-- A call that hears nothing and hands nothing over. -/
theorem Pk.inv.step (h : p.inv c) (hi : i < 2) {r : Gn × List GF} (st : Step (c i) (p.n i) r.1 r.2) (h1 : r.1.A = (p.n i).A) (h2 : r.1.RV = (p.n i).RV) (h3 : r.1.came = (p.n i).came) : (p.step i r).inv c := by
  have hne : 1 - i ≠ i := by omega
  have hb := h.back hi
  refine ⟨both hi ?_ ?_, both hi ?_ ?_⟩
  · show (upd p.n i r.1 i).ok (c i)
    rw [upd_same]; exact st.ok
  · show (upd p.n i r.1 (1 - i)).ok (c (1 - i))
    rw [upd_other _ _ hne]; exact h.ok _ (by omega)
  · show Way2 (c i) (upd p.n i r.1 i) (upd p.n i r.1 (1 - i)) (p.t i) (upd p.L i _ i)
    rw [upd_same, upd_same, upd_other _ _ hne]
    exact (h.way i hi).sent st (h.ok i hi) (by rw [h1]; exact (h.way i hi).ar) hb.ar
  · show Way2 (c (1 - i)) (upd p.n i r.1 (1 - i)) (upd p.n i r.1 (1 - (1 - i))) (p.t (1 - i)) (upd p.L i _ (1 - i))
    rw [one_one hi, upd_same, upd_other _ _ hne, upd_other _ _ hne]
    exact hb.other h1 h2 h3
theorem Pk.inv.taken (h : p.inv c) (hi : i < 2) : (p.take c i).inv c := by
  have hne : 1 - i ≠ i := by omega
  have hb := h.back hi
  have st := gTaken_step (h.ok i hi)
  refine ⟨both hi ?_ ?_, both hi ?_ ?_⟩
  · show (upd p.n i _ i).ok (c i)
    rw [upd_same]; exact st.ok
  · show (upd p.n i _ (1 - i)).ok (c (1 - i))
    rw [upd_other _ _ hne]; exact h.ok _ (by omega)
  · show Way2 (c i) (upd p.n i _ i) (upd p.n i _ (1 - i)) (upd p.t (1 - i) _ i) (upd p.L i _ i)
    rw [upd_same, upd_same, upd_other _ _ hne, upd_other _ _ (fun e => hne e.symm)]
    exact (h.way i hi).sent st (h.ok i hi) (h.way i hi).ar hb.ar
  · show Way2 (c (1 - i)) (upd p.n i _ (1 - i)) (upd p.n i _ (1 - (1 - i))) (upd p.t (1 - i) _ (1 - i)) (upd p.L i _ (1 - i))
    rw [one_one hi, upd_same, upd_same, upd_other _ _ hne, upd_other _ _ hne]
    exact hb.taken rfl rfl rfl
theorem Pk.inv.lost (h : p.inv c) (hi : i < 2) : (p.lose i).inv c := by
  have hne : 1 - i ≠ i := by omega
  refine ⟨h.ok, both hi ?_ ?_⟩
  · show Way2 (c i) (p.n i) (p.n (1 - i)) (p.t i) (upd p.L i _ i)
    rw [upd_same]
    have := h.way i hi
    cases e : p.L i with
    | nil => rw [e] at this; exact this
    | cons g r => rw [e] at this; exact this.lost
  · show Way2 (c (1 - i)) (p.n (1 - i)) (p.n (1 - (1 - i))) (p.t (1 - i)) (upd p.L i _ (1 - i))
    rw [upd_other _ _ hne]
    exact h.way (1 - i) (by omega)
/-- What is next to be heard may be heard. -/
theorem Pk.inv.fits (h : p.inv c) (hT : Two c) (hi : i < 2) {g : GF} {r : List GF} (hL : p.L i = g :: r) : g.ok ∧ (p.n (1 - i)).A ≤ g.nr ∧ g.nr ≤ (p.n (1 - i)).VM ∧ (g.k = 1 → g.ns < (p.n (1 - i)).RV + (c (1 - i)).m ∧ (p.n (1 - i)).RV < g.ns + (c (1 - i)).m) := by
  have hw := h.way i hi
  rw [hL] at hw
  have hm : g ∈ g :: r := List.mem_cons_self ..
  have hb := h.back hi
  obtain ⟨n1, n2⟩ := hw.nr g hm
  refine ⟨hw.fok g hm, n1, Nat.le_trans n2 hb.rm, fun e => ?_⟩
  obtain ⟨q1, _, q3⟩ := hw.isn g hm e
  have w1 := (hT.ok i hi).winm
  have w2 := (h.ok i hi).win
  have w3 := hw.ar
  rw [hT.m i hi]
  exact ⟨by omega, by omega⟩
theorem Pk.inv.heard (h : p.inv c) (hT : Two c) (hi : i < 2) : (p.hand c i).inv c := by
  unfold Pk.hand
  cases hL : p.L i with
  | nil => exact h
  | cons g r =>
    dsimp only
    obtain ⟨_, f1, f2, _⟩ := h.fits hT hi hL
    have hne : 1 - i ≠ i := by omega
    have hj : 1 - i < 2 := by omega
    obtain ⟨st, h1, h2⟩ := gHear_step (h.ok _ hj) f1 f2
    have hw := h.way i hi
    rw [hL] at hw
    have hb := h.back hi
    refine ⟨both hi ?_ ?_, both hi ?_ ?_⟩
    · show (upd p.n (1 - i) _ i).ok (c i)
      rw [upd_other _ _ (fun e => hne e.symm)]; exact h.ok i hi
    · show (upd p.n (1 - i) _ (1 - i)).ok (c (1 - i))
      rw [upd_same]; exact st.ok
    · show Way2 (c i) (upd p.n (1 - i) _ i) (upd p.n (1 - i) _ (1 - i)) (p.t i) (upd (upd p.L i r) (1 - i) _ i)
      rw [upd_same, upd_other _ _ (fun e => hne e.symm), upd_other _ _ (fun e => hne e.symm), upd_same]
      exact hw.heard (h.ok i hi) h1 h2
    · show Way2 (c (1 - i)) (upd p.n (1 - i) _ (1 - i)) (upd p.n (1 - i) _ (1 - (1 - i))) (p.t (1 - i)) (upd (upd p.L i r) (1 - i) (upd p.L i r (1 - i) ++ _) (1 - i))
      rw [one_one hi, upd_same, upd_same, upd_other _ _ (fun e => hne e.symm), upd_other _ _ hne]
      exact hb.sent st (h.ok _ hj) (by rw [h1]; exact (hw.nr g (List.mem_cons_self ..)).2) hw.ar
theorem Pk.inv.moved (h : p.inv c) (hT : Two c) (hi : i < 2) {kd : Nat} {on : Bool} {q : Pk} (hq : p.move c kd i on = some q) : q.inv c := by
  unfold Pk.move at hq
  split at hq
  · cases hq
    obtain ⟨st, h1, h2, h3, _⟩ := gSend_step (h.ok i hi) (m := msgL i (p.n i).gv.length) (by rw [msgL_length]; omega)
    exact h.step hi st h1 h2 h3
  · split at hq
    · cases hq; exact h.lost hi
    · split at hq
      · cases hq; exact h.taken hi
      · split at hq
        · unfold Pk.tick at hq
          cases hr : gTick (c i) (p.n i) with
          | none => rw [hr] at hq; cases hq
          | some r =>
            rw [hr] at hq
            cases hq
            obtain ⟨st, h1, h2, h3⟩ := gTick_step (h.ok i hi) hr
            exact h.step hi st h1 h2 h3
        · split at hq
          · cases hq
            exact h.step hi (gBusy_step (h.ok i hi) on) rfl rfl rfl
          · cases hq; exact h.heard hT hi
end

/-- The link goes by p. -/
structure Sim (c : Nat → Cfg) (k : Lk) (p : Pk) : Prop where
  en : k.en = false
  rel : ∀ i, i < 2 → Rel (c i) (k.s i) (p.n i)
  ch : ∀ i, i < 2 → k.l i ++ (k.s i).out = (p.L i).map (GF.enc (c i))
  gv : ∀ i, i < 2 → (p.n i).gv = (k.n i).map (fun b => b.data.toList)
  t : ∀ i, i < 2 → k.t i = p.t i

theorem takeL_all (gs : List ByteArray) : ∀ (d t : Nat), t + d ≤ gs.length → takeL (((gs.map (fun b => b.data.toList)).take (t + d)).drop t) gs t = (true, t + d) := by
  intro d
  induction d with
  | zero =>
    intro t h
    rw [Nat.add_zero, List.drop_eq_nil_of_le (by rw [List.length_take]; omega)]
    rfl
  | succ d ih =>
    intro t h
    have hl : t < gs.length := by omega
    have hl2 : t < ((gs.map (fun b : ByteArray => b.data.toList)).take (t + (d + 1))).length := by rw [List.length_take, List.length_map]; omega
    rw [List.drop_eq_getElem_cons hl2]
    unfold takeL
    rw [if_pos]
    · have := ih (t + 1) (by omega)
      rw [show t + 1 + d = t + (d + 1) by omega] at this
      exact this
    · rw [List.getElem_take, List.getElem_map, List.getElem?_eq_getElem hl]
section
variable {c : Nat → Cfg} {k : Lk} {p : Pk} {i : Nat}
theorem Sim.step (h : Sim c k p) (hi : i < 2) {s' : St} {r : Gn × List GF} (hg : Goes (c i) (k.s i) s' r) (hv : r.1.gv = (p.n i).gv) : Sim c { k with s := upd k.s i s' } (p.step i r) := by
  have hne : 1 - i ≠ i := by omega
  refine ⟨h.en, both hi ?_ ?_, both hi ?_ ?_, both hi ?_ ?_, h.t⟩
  · show Rel (c i) (upd k.s i s' i) (upd p.n i r.1 i)
    rw [upd_same, upd_same]; exact hg.1
  · show Rel (c (1 - i)) (upd k.s i s' (1 - i)) (upd p.n i r.1 (1 - i))
    rw [upd_other _ _ hne, upd_other _ _ hne]; exact h.rel _ (by omega)
  · show k.l i ++ (upd k.s i s' i).out = (upd p.L i _ i).map _
    rw [upd_same, upd_same, List.map_append, ← h.ch i hi, hg.2, List.append_assoc]
  · show k.l (1 - i) ++ (upd k.s i s' (1 - i)).out = (upd p.L i _ (1 - i)).map _
    rw [upd_other _ _ hne, upd_other _ _ hne]; exact h.ch _ (by omega)
  · show (upd p.n i r.1 i).gv = _
    rw [upd_same, hv]; exact h.gv i hi
  · show (upd p.n i r.1 (1 - i)).gv = _
    rw [upd_other _ _ hne]; exact h.gv _ (by omega)
theorem gChange_gv (n : Gn) : (gTaken (c i) n).1.gv = n.gv := rfl
theorem Sim.take (h : Sim c k p) (hv : p.inv c) (hi : i < 2) : k.takeOk i = true ∧ Sim c (k.take c i) (p.take c i) := by
  have hj : 1 - i < 2 := by omega
  have hb := hv.back hi
  have hl : takeL (k.s i).came (k.n (1 - i)) (k.t (1 - i)) = (true, (p.n i).RV) := by
    have h1 := hb.tr
    have h2 := hb.rm
    have h3 := (hv.ok _ hj).vmn
    have hlen : (p.n (1 - i)).gv.length = (k.n (1 - i)).length := by rw [h.gv _ hj, List.length_map]
    rw [(h.rel i hi).came, hb.came, h.gv _ hj, h.t _ hj]
    have := takeL_all (k.n (1 - i)) ((p.n i).RV - p.t (1 - i)) (p.t (1 - i)) (by omega)
    rw [show p.t (1 - i) + ((p.n i).RV - p.t (1 - i)) = (p.n i).RV by omega] at this
    exact this
  refine ⟨by unfold Lk.takeOk; rw [hl], ?_⟩
  have q := h.step hi (taken_r (h.rel i hi)) rfl
  refine ⟨q.en, q.rel, q.ch, q.gv, fun j hj => ?_⟩
  show upd k.t (1 - i) (takeL (k.s i).came (k.n (1 - i)) (k.t (1 - i))).2 j = upd p.t (1 - i) (p.n i).RV j
  rw [hl]
  unfold upd
  split
  · rfl
  · exact h.t j hj
theorem Sim.give (h : Sim c k p) (hT : Two c) (hi : i < 2) : (giveOk c k.s k.n i = 0 ∨ giveOk c k.s k.n i = 7) ∧ Sim c (k.give c i) (p.give c i) := by
  have hlen : (p.n i).gv.length = (k.n i).length := by rw [h.gv i hi, List.length_map]
  obtain ⟨q1, q2⟩ := send_r (hT.ok i hi) (h.rel i hi) (m := msgL i (k.n i).length) (by rw [msgL_length]; omega)
  have q1' : giveOk c k.s k.n i = if 20 ≤ (p.n i).gv.length - (p.n i).A then 7 else 0 := q1
  have hne : 1 - i ≠ i := by omega
  refine ⟨by rw [q1']; split <;> simp, h.en, both hi ?_ ?_, both hi ?_ ?_, both hi ?_ ?_, h.t⟩
  · show Rel (c i) (upd k.s i _ i) (upd p.n i _ i)
    rw [upd_same, upd_same, hlen]; exact q2.1
  · show Rel (c (1 - i)) (upd k.s i _ (1 - i)) (upd p.n i _ (1 - i))
    rw [upd_other _ _ hne, upd_other _ _ hne]; exact h.rel _ (by omega)
  · show k.l i ++ (upd k.s i _ i).out = (upd p.L i _ i).map _
    rw [upd_same, upd_same, List.map_append, ← h.ch i hi, hlen, q2.2, List.append_assoc]
  · show k.l (1 - i) ++ (upd k.s i _ (1 - i)).out = (upd p.L i _ (1 - i)).map _
    rw [upd_other _ _ hne, upd_other _ _ hne]; exact h.ch _ (by omega)
  · show (upd p.n i (gSend (c i) (msgL i (p.n i).gv.length) (p.n i)).1 i).gv = (giveN c k.s k.n i i).map _
    rw [upd_same, (gSend_step (h.rel i hi).ok (m := msgL i (p.n i).gv.length) (by rw [msgL_length]; omega)).2.2.2.2]
    unfold giveN
    rw [q1']
    by_cases e : 20 ≤ (p.n i).gv.length - (p.n i).A
    · rw [if_pos e, if_pos e, if_neg (by omega)]; exact h.gv i hi
    · rw [if_neg e, if_neg e, if_pos rfl, upd_same, List.map_append, ← h.gv i hi, hlen]; rfl
  · show (upd p.n i _ (1 - i)).gv = (giveN c k.s k.n i (1 - i)).map _
    rw [upd_other _ _ hne]
    unfold giveN
    split
    · rw [upd_other _ _ hne]; exact h.gv _ (by omega)
    · exact h.gv _ (by omega)
theorem gHear_gv {c : Cfg} {n : Gn} (h : n.ok c) {g : GF} (h1 : n.A ≤ g.nr) (h2 : g.nr ≤ n.VM) : (gHear c g n).1.gv = n.gv := by
  have e1 : (gHear c g n).1.gv = (gHear1 c g n).1.gv := (gPump_keeps (c := c) (n := (gHear1 c g n).1)).2.2.2
  have e2 : (gAck g.nr n).gv = n.gv := (gAck_step h h1 h2).2.2.2.2.1
  rw [e1, ← e2]
  unfold gHear1 gHearMsg gHearReady
  repeat' (first | rfl | split)
theorem Sim.look (h : Sim c k p) : Sim c k.look p ∧ ∀ j, j < 2 → (k.look.s j).out = [] := by
  have e0 := (h.rel 0 (by omega)).gs.ev
  have e1 := (h.rel 1 (by omega)).gs.ev
  have hs : ∀ j, j < 2 → k.look.s j = looked (k.s j) := fun j hj => by show lookedTo k.s 2 j = _; unfold lookedTo; rw [if_pos hj]
  have hl : ∀ j, j < 2 → k.look.l j = k.l j ++ (k.s j).out := fun j hj => by show wayTo k.s k.l 2 j = _; unfold wayTo; rw [if_pos hj]
  refine ⟨⟨?_, fun j hj => ?_, fun j hj => ?_, h.gv, h.t⟩, fun j hj => by rw [hs j hj]; rfl⟩
  · show endTo k.s k.en 2 = false
    simp [endTo, h.en, e0, e1]
  · rw [hs j hj]
    have r := h.rel j hj
    exact ⟨r.gs.of rfl (by rw [r.gs.ev]; rfl) rfl rfl rfl rfl rfl, r.came, r.polling, r.peer, r.rejected, r.busy, r.timer, r.tries⟩
  · rw [hs j hj, hl j hj, ← h.ch j hj]
    show _ ++ [] = _
    rw [List.append_nil]
theorem Sim.hand (h : Sim c k p) (hv : p.inv c) (hT : Two c) (hi : i < 2) (ho : ∀ j, j < 2 → (k.s j).out = []) : handOk c k.s k.l i false = true ∧ Sim c (k.hand c i false) (p.hand c i) := by
  have hne : 1 - i ≠ i := by omega
  have hj : 1 - i < 2 := by omega
  have hch := h.ch i hi
  rw [ho i hi, List.append_nil] at hch
  cases hL : p.L i with
  | nil =>
    rw [hL] at hch
    have hl : k.l i = [] := hch
    have e1 : k.hand c i false = { k with l := upd k.l i [] } := by
      unfold Lk.hand handS
      rw [hl]
      rfl
    have e2 : upd k.l i [] = k.l := by
      funext j
      unfold upd
      split
      · rename_i e; rw [e, hl]
      · rfl
    have e3 : p.hand c i = p := by unfold Pk.hand; rw [hL]
    refine ⟨by unfold handOk; rw [hl], ?_⟩
    rw [e1, e2, e3]
    exact h
  | cons g r =>
    rw [hL, List.map_cons] at hch
    obtain ⟨f0, f1, f2, f3⟩ := hv.fits hT hi hL
    obtain ⟨q1, q2⟩ := hear_r (hT.ok _ hj) (hT.ok i hi) (hT.m i hi).symm (by have := hT.addr i hi; omega) (h.rel _ hj) f0 f1 f2 f3
    have e1 : k.hand c i false = { k with s := upd k.s (1 - i) (hearS (c (1 - i)) (GF.enc (c i) g) (k.s (1 - i))).2, l := upd k.l i (r.map (GF.enc (c i))) } := by
      unfold Lk.hand handS
      rw [hch]
      rfl
    have e3 : p.hand c i = Pk.step { p with L := upd p.L i r } (1 - i) (gHear (c (1 - i)) g (p.n (1 - i))) := by unfold Pk.hand; rw [hL]
    refine ⟨by unfold handOk; rw [hch]; simp [q1], ?_⟩
    rw [e1, e3]
    have h' : Sim c { k with l := upd k.l i (r.map (GF.enc (c i))) } { p with L := upd p.L i r } := by
      refine ⟨h.en, h.rel, both hi ?_ ?_, h.gv, h.t⟩
      · show upd k.l i _ i ++ (k.s i).out = (upd p.L i r i).map _
        rw [upd_same, upd_same, ho i hi, List.append_nil]
      · show upd k.l i _ (1 - i) ++ (k.s (1 - i)).out = (upd p.L i r (1 - i)).map _
        rw [upd_other _ _ hne, upd_other _ _ hne]; exact h.ch _ hj
    exact h'.step hj q2 (gHear_gv (hv.ok _ hj) f1 f2)
theorem Sim.lose (h : Sim c k p) (hi : i < 2) (ho : ∀ j, j < 2 → (k.s j).out = []) : handOk c k.s k.l i true = true ∧ Sim c (k.hand c i true) (p.lose i) := by
  have hne : 1 - i ≠ i := by omega
  have hch := h.ch i hi
  rw [ho i hi, List.append_nil] at hch
  have e1 : (k.hand c i true) = { k with l := upd k.l i (k.l i).tail } := by
    unfold Lk.hand handS
    cases k.l i <;> rfl
  refine ⟨by unfold handOk; cases k.l i <;> rfl, ?_⟩
  rw [e1]
  refine ⟨h.en, h.rel, both hi ?_ ?_, h.gv, h.t⟩
  · show upd k.l i _ i ++ (k.s i).out = (upd p.L i _ i).map _
    rw [upd_same, upd_same, ho i hi, List.append_nil, hch, List.map_tail]
  · show upd k.l i _ (1 - i) ++ (k.s (1 - i)).out = (upd p.L i _ (1 - i)).map _
    rw [upd_other _ _ hne, upd_other _ _ hne]; exact h.ch _ (by omega)
theorem Sim.tick (h : Sim c k p) (hi : i < 2) : (k.tick c i).look.en = true ∨ ∃ q, p.tick c i = some q ∧ Sim c (k.tick c i) q := by
  rcases tick_r (h.rel i hi) with e | ⟨r, hr, hg⟩
  · left
    show endTo (upd k.s i (tickS (c i) (k.s i))) k.en 2 = true
    have hp : 0 < (tickS (c i) (k.s i)).events.length := List.length_pos_iff.2 e
    have hc : i = 0 ∨ i = 1 := by omega
    rcases hc with rfl | rfl
    · have : upd k.s 0 (tickS (c 0) (k.s 0)) 0 = tickS (c 0) (k.s 0) := upd_same _ _ _
      simp [endTo, this, hp]
    · have : upd k.s 1 (tickS (c 1) (k.s 1)) 1 = tickS (c 1) (k.s 1) := upd_same _ _ _
      simp [endTo, this, hp]
  · right
    refine ⟨p.step i r, by unfold Pk.tick; rw [hr]; rfl, ?_⟩
    have hgv : r.1.gv = (p.n i).gv := by
      unfold gTick at hr
      split at hr
      · cases hr; rfl
      · split at hr
        · split at hr
          · cases hr
          · cases hr; rfl
        · cases hr; rfl
    exact h.step hi hg hgv
/-- A move. -/
theorem Sim.moved (h : Sim c k p) (hv : p.inv c) (hT : Two c) (hi : i < 2) (ho : ∀ j, j < 2 → (k.s j).out = []) (kd : Nat) (on : Bool) :
    k.moveOk c kd i = true ∧ ((k.move c kd i on).look.en = true ∨ ∃ q, p.move c kd i on = some q ∧ Sim c (k.move c kd i on).look q ∧ q.inv c ∧ ∀ j, j < 2 → ((k.move c kd i on).look.s j).out = []) := by
  have fin : ∀ {k' : Lk} {q : Pk}, Sim c k' q → p.move c kd i on = some q → k'.look.en = true ∨ ∃ q, p.move c kd i on = some q ∧ Sim c k'.look q ∧ q.inv c ∧ ∀ j, j < 2 → (k'.look.s j).out = [] := fun hs hq => .inr ⟨_, hq, hs.look.1, hv.moved hT hi hq, hs.look.2⟩
  unfold Lk.moveOk Lk.move
  by_cases e1 : kd < 3
  · rw [if_pos e1, if_pos e1]
    obtain ⟨q1, q2⟩ := h.give hT hi
    exact ⟨by rcases q1 with e | e <;> rw [e] <;> rfl, fin q2 (by unfold Pk.move; rw [if_pos e1])⟩
  · rw [if_neg e1, if_neg e1]
    by_cases e2 : kd = 7
    · rw [if_pos e2, if_pos e2]
      obtain ⟨q1, q2⟩ := h.lose hi ho
      exact ⟨q1, fin q2 (by unfold Pk.move; rw [if_neg e1, if_pos e2])⟩
    · rw [if_neg e2, if_neg e2]
      by_cases e3 : kd = 8
      · rw [if_pos e3, if_pos e3]
        obtain ⟨q1, q2⟩ := h.take hv hi
        exact ⟨q1, fin q2 (by unfold Pk.move; rw [if_neg e1, if_neg e2, if_pos e3])⟩
      · rw [if_neg e3, if_neg e3]
        by_cases e4 : kd = 9
        · rw [if_pos e4, if_pos e4]
          refine ⟨rfl, ?_⟩
          rcases h.tick hi with q | ⟨q, q1, q2⟩
          · exact .inl q
          · exact fin q2 (by unfold Pk.move; rw [if_neg e1, if_neg e2, if_neg e3, if_pos e4]; exact q1)
        · rw [if_neg e4, if_neg e4]
          by_cases e5 : kd = 10
          · rw [if_pos e5, if_pos e5]
            exact ⟨rfl, fin (h.step hi (busy_r (h.rel i hi) on) rfl) (by unfold Pk.move; rw [if_neg e1, if_neg e2, if_neg e3, if_neg e4, if_pos e5]; rfl)⟩
          · rw [if_neg e5, if_neg e5]
            obtain ⟨q1, q2⟩ := h.hand hv hT hi ho
            exact ⟨q1, fin q2 (by unfold Pk.move; rw [if_neg e1, if_neg e2, if_neg e3, if_neg e4, if_neg e5])⟩
end
end Go.Proofs.YtkalonhalhdlaaaDoor
