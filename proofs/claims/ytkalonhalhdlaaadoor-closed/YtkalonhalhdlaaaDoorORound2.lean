/-
  The rounds of Arrives: whoever waits has asked, so that all comes.
-/
import Derived.Test.YtkalonhalhdlaaaDoorORound
namespace Go.Proofs.YtkalonhalhdlaaaDoor
open Go

section
variable {c : Nat → Cfg} {k : Lk} {p q : Pk} {i : Nat}
theorem gPoll_asks (d : Cfg) (n : Gn) (L : List GF) : asks (L ++ [gPoll d n]) := by
  refine ⟨gPoll d n, List.mem_append_right _ (List.mem_cons_self ..), ?_, rfl⟩
  show ¬ gReady d n = 1
  have := gReady_23 (c := d) (n := n)
  omega
theorem Ticked.keeps {d : Cfg} {n0 n : Gn} {L0 L : List GF} {t : Nat} (h : Ticked d n0 L0 t n L) : n.A = n0.A ∧ n.VS = n0.VS ∧ n.VM = n0.VM ∧ n.RV = n0.RV ∧ n.gv = n0.gv ∧ n.came = n0.came ∧ n.busy = n0.busy ∧ n.rejected = n0.rejected ∧ n.peer = n0.peer := by
  rcases h with ⟨_, rfl, _⟩ | ⟨_, _, rfl, _⟩ | ⟨_, _, ⟨tr, rfl⟩, _⟩ <;> exact ⟨rfl, rfl, rfl, rfl, rfl, rfl, rfl, rfl, rfl⟩
/-- Once the timers have run out. -/
theorem ticked_calm (h : p.ready c) (hT : Two c) (hq : q.inv c) (hk : ∀ i, i < 2 → Ticked (c i) (p.n i) (p.L i) (c i).tim (q.n i) (q.L i)) : q.calm c ∧ q.pot 30 2 1 31 30 ≤ p.pot 30 2 1 31 30 + 64 := by
  have hfr : ∀ i, i < 2 → (q.n i).free := fun i hi => ⟨(hk i hi).keeps.2.2.2.2.2.2.1.trans (h.fr i hi).busy, (hk i hi).keeps.2.2.2.2.2.1.trans (h.fr i hi).came⟩
  -- whoever has not asked waits for nothing
  have hcase : ∀ i, i < 2 → (asks (q.L i) ∧ (q.n i).polling = true ∧ (q.n i).timer = (p.n i).timer ∧ 0 < (p.n i).timer) ∨ ((p.n i).timer = 0 ∧ q.n i = p.n i ∧ q.L i = p.L i) := by
    intro i hi
    have hx := (h.si i hi).tmx
    rcases hk i hi with z | ⟨_, z, _⟩ | ⟨z1, z2, ⟨tr, z3⟩, z4⟩
    · exact .inr z
    · omega
    · left
      rw [z3, z4]
      exact ⟨gPoll_asks _ _ _, rfl, by show (c i).tim - ((c i).tim - (p.n i).timer) = _; omega, z1⟩
  have hsays : ∀ i, i < 2 → ∀ x, lastp x (q.L i) = x ∨ lastp x (q.L i) = false := by
    intro i hi x
    have hh := (h.fr i hi).held (hT.ok i hi)
    have hp : lastp x (p.L i) = x ∨ lastp x (p.L i) = false := by
      rcases h.says i hi with z | z
      · exact .inl (z x)
      · exact .inr ((z x).trans hh)
    rcases hk i hi with ⟨_, _, z⟩ | ⟨_, _, _, z⟩ | ⟨_, _, _, z⟩
    · rw [z]; exact hp
    · rw [z]; exact hp
    · right
      rw [z, lastp_append]
      show (if gReady (c i) (p.n i) = 1 then _ else gReady (c i) (p.n i) == 3) = false
      have e : gReady (c i) (p.n i) = 2 := by unfold gReady; rw [hh]; rfl
      rw [e]
      rfl
  refine ⟨⟨hq, hfr, fun i hi => ?_, fun i hi => ?_⟩, ?_⟩
  · have hs := h.si i hi
    have hkp := (hk i hi).keeps
    rcases hcase i hi with ⟨_, z1, z2, z3⟩ | ⟨_, z, _⟩
    · refine ⟨fun _ => by omega, fun e => absurd z1 (by rw [e]; simp), ?_, by rw [z2]; exact hs.tmx⟩
      rw [hkp.2.2.2.2.1, hkp.1]
      exact hs.q20
    · rw [z]; exact hs
  · rcases hcase i hi with ⟨z0, z1, _⟩ | ⟨z0, z1, z2⟩
    · exact ⟨fun _ => .inl z0, .inl z1, .inl z0, .inl z0⟩
    · have hs := h.si i hi
      have hnw : ¬ ((p.n i).A < (p.n i).VM ∨ (p.n i).peer = true ∨ (p.n i).polling = true) := fun x => by have := hs.tm x; omega
      have n1 : ¬ (q.n i).A < (q.n i).VM := fun x => hnw (.inl (by rw [z1] at x; exact x))
      have n2 : (q.n i).peer = false := by
        cases e : (q.n i).peer with
        | false => rfl
        | true => exact absurd (.inr (.inl (by rw [z1] at e; exact e))) hnw
      have n3 : (q.n i).polling = false := by
        cases e : (q.n i).polling with
        | false => rfl
        | true => exact absurd (.inr (.inr (by rw [z1] at e; exact e))) hnw
      have hw := hq.way i hi
      have hb := hq.back hi
      have ho := hq.ok i hi
      have w1 := hw.ar
      have w2 := hw.rm
      have w3 := ho.vsm
      have hRA : (q.n (1 - i)).RV = (q.n i).A := by omega
      refine ⟨fun e => (by rw [n3] at e; cases e), .inr (Nat.le_trans (by omega) (le_reach _ _)), .inr ?_, .inr ?_⟩
      · by_cases e : q.L (1 - i) = []
        · rw [e]; exact hRA.symm
        · refine lastn_all _ _ e (fun g hg => ?_)
          have := hb.nr g hg
          omega
      · rw [n2]
        rcases hsays (1 - i) (by omega) false with e | e <;> exact e
  · have hone : ∀ i, i < 2 → q.pot1 30 2 1 31 30 i ≤ p.pot1 30 2 1 31 30 i + 32 := by
      intro i hi
      have kp := (hk i hi).keeps
      have kq := (hk (1 - i) (by omega)).keeps
      unfold Pk.pot1
      have hr : rp 31 30 (q.n (1 - i)).gv.length (q.n i) = rp 31 30 (p.n (1 - i)).gv.length (p.n i) := by
        unfold rp
        rw [kq.2.2.2.2.1, kp.2.2.2.1, kp.2.2.2.2.2.2.2.1]
      rw [hr]
      unfold sp
      rw [kp.2.2.2.2.1, kp.2.1]
      rcases hk i hi with ⟨_, z1, z2⟩ | ⟨_, _, z1, z2⟩ | ⟨_, _, ⟨tr, z1⟩, z2⟩
      · rw [z1, z2]; omega
      · rw [z1, z2]; show 2 * ((p.n i).gv.length - (p.n i).VS) + (if (p.n i).polling then 30 else 0) + _ + _ ≤ _; omega
      · rw [z1, z2, wtL_append]
        have hw : wtL 2 1 [gPoll (c i) (p.n i)] = 2 := by
          have hq := gReady_23 (c := c i) (n := p.n i)
          show (if gReady (c i) (p.n i) = 1 then 2 else if gReady (c i) (p.n i) = 4 then 31 else if true = true then 2 else if true = true then 1 else 1) + 0 = 2
          rw [if_neg (by omega), if_neg (by omega)]
          simp
        rw [hw]
        show 2 * ((p.n i).gv.length - (p.n i).VS) + (if true = true then 30 else 0) + _ + _ ≤ _
        rw [if_pos rfl]
        omega
    have h0 := hone 0 (by omega)
    have h1 := hone 1 (by omega)
    unfold Pk.pot
    omega
/-- A round. -/
theorem round_ok (h : p.ready c) (hT : Two c) (hk : ∃ t, (∀ i, i < 2 → (c i).tim = t) ∧ TickInv c p t k) :
    k.look.en = true ∨ (k.look.en = false ∧ ∃ k' p', flowsL c 5000 k.look = (true, k') ∧ Sim c k' p' ∧ p'.ready c ∧ k'.still ∧ p'.done ∧ (∀ j, j < 2 → k'.l j = []) ∧ ∀ j, j < 2 → (p'.n j).gv = (p.n j).gv) := by
  obtain ⟨t, ht, hk⟩ := hk
  rcases hk with e | ⟨q, hs, hv, hqt, hti⟩
  · exact .inl (look_en e)
  · right
    obtain ⟨s1, s2⟩ := hs.look
    obtain ⟨c1, c2⟩ := ticked_calm h hT hv (fun i hi => by rw [ht i hi]; exact hti i hi)
    have hpot := h.pot
    obtain ⟨k', p', f1, f2, f3, f4, f5, f6, f7⟩ := flows_end hT 5000 s1 c1 Lk.look_still (by omega)
    refine ⟨s1.en, k', p', f1, f2, ⟨f3.inv, f3.fr, f3.si, ?_, ?_⟩, f4, fun i hi => ?_, ?_, fun j hj => (f7 j hj).trans (hti j hj).keeps.2.2.2.2.1⟩
    · refine both (show 0 < 2 by omega) ?_ ?_
      · rw [f5]; exact .inl fun _ => rfl
      · show Says _ _ (p'.L 1)
        rw [f6]; exact .inl fun _ => rfl
    · have hone : ∀ i, i < 2 → p'.pot1 30 2 1 31 30 i ≤ 30 := by
        intro i hi
        have a := f3.all hT f5 f6 hi
        have a' := f3.all hT f5 f6 (show 1 - i < 2 by omega)
        rw [one_one hi] at a'
        have hL : p'.L i = [] := by
          have : i = 0 ∨ i = 1 := by omega
          rcases this with rfl | rfl <;> assumption
        have o1 := (f3.inv.ok i hi).avs
        unfold Pk.pot1 sp rp
        rw [hL, a.2.2.2.1, a'.2.1]
        have e0 : (p'.n i).gv.length - (p'.n i).VS = 0 := by omega
        rw [e0]
        show 2 * 0 + 0 + (31 * ((p'.n (1 - i)).gv.length - (p'.n (1 - i)).gv.length) + (if (p'.n i).rejected then 0 else 30)) + 0 ≤ 30
        split <;> omega
      have h0 := hone 0 (by omega)
      have h1 := hone 1 (by omega)
      unfold Pk.pot
      omega
    · have a := f3.all hT f5 f6 hi
      exact ⟨a.1, a.2.2.1⟩
    · refine both (show 0 < 2 by omega) ?_ ?_
      · exact (f2.empty f4 (by omega)).2 f5
      · exact (f2.empty f4 (show 1 < 2 by omega)).2 f6
/-- Nobody is busy any more, and what came is taken: behind 200 moves. -/
theorem ready_of (h : p.mi c 2100) (hfr : ∀ i, i < 2 → (p.n i).free) : p.ready c := by
  refine ⟨h.inv, hfr, h.si, h.says, ?_⟩
  have hone : ∀ i, i < 2 → p.pot1 30 2 1 31 30 i ≤ p.pot1 0 10 20 8 19 i + 501 := by
    intro i hi
    have hw : ∀ L : List GF, wtL 2 1 L ≤ wtL 10 20 L := by
      intro L
      induction L with
      | nil => exact Nat.le_refl _
      | cons g L ih =>
        show wtG 2 1 g + wtL 2 1 L ≤ wtG 10 20 g + wtL 10 20 L
        have : wtG 2 1 g ≤ wtG 10 20 g := by
          unfold wtG
          split
          · omega
          · split
            · omega
            · split
              · omega
              · split <;> omega
        omega
    have hb := h.inv.back hi
    have q := (h.si (1 - i) (by omega)).q20
    have b1 := hb.ar
    have b2 := hw (p.L i)
    unfold Pk.pot1 sp rp
    split <;> split <;> omega
  have h0 := hone 0 (by omega)
  have h1 := hone 1 (by omega)
  have hp := h.pot
  unfold Pk.pot at hp ⊢
  omega
end
end Go.Proofs.YtkalonhalhdlaaaDoor
