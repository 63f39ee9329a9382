/-
  Two stations once nothing is lost: each step keeps it so, and makes it less; where nothing is on its way any more, all has come.
-/
import Derived.Test.YtkalonhalhdlaaaDoorOFlow3
import Derived.Test.YtkalonhalhdlaaaDoorOSim
namespace Go.Proofs.YtkalonhalhdlaaaDoor
open Go

def Pk.flow1 (c : Nat → Cfg) (p : Pk) (i : Nat) : Pk := (p.hand c i).take c (1 - i)
/-- From a to b by L, back by M: nothing is lost, and nobody is busy. -/
structure Dirn (a b : Gn) (L M : List GF) : Prop where
  f3 : a.polling = true → asks L ∨ tells M
  f4 : a.polling = true ∨ a.VS ≤ reach b.RV L
  f5 : asks L ∨ lastn a.A M = b.RV
  f6 : asks L ∨ lastp a.peer M = false
structure Pk.calm (c : Nat → Cfg) (p : Pk) : Prop where
  inv : p.inv c
  fr : ∀ i, i < 2 → (p.n i).free
  si : ∀ i, i < 2 → (p.n i).si (c i)
  dir : ∀ i, i < 2 → Dirn (p.n i) (p.n (1 - i)) (p.L i) (p.L (1 - i))
def Pk.pot1 (b e f u v : Nat) (p : Pk) (i : Nat) : Nat := sp b (p.n i) + rp u v (p.n (1 - i)).gv.length (p.n i) + wtL e f (p.L i)
def Pk.pot (b e f u v : Nat) (p : Pk) : Nat := p.pot1 b e f u v 0 + p.pot1 b e f u v 1
section
variable {c : Nat → Cfg} {p : Pk} {i : Nat}
theorem Pk.pot_both (b e f u v : Nat) (hi : i < 2) : p.pot b e f u v = p.pot1 b e f u v i + p.pot1 b e f u v (1 - i) := by
  unfold Pk.pot
  have : i = 0 ∨ i = 1 := by omega
  rcases this with rfl | rfl
  · rfl
  · exact Nat.add_comm _ _
theorem asks_cons {g : GF} {L : List GF} (h : asks (g :: L)) : (g.k ≠ 1 ∧ g.cmd = true) ∨ asks L := by
  obtain ⟨x, hx, hy⟩ := h
  rcases List.mem_cons.1 hx with rfl | hx
  · exact .inl hy
  · exact .inr ⟨x, hx, hy⟩
theorem tells_cons {g : GF} {L : List GF} (h : tells (g :: L)) : (g.k ≠ 1 ∧ g.cmd = false ∧ g.p = true) ∨ tells L := by
  obtain ⟨x, hx, hy⟩ := h
  rcases List.mem_cons.1 hx with rfl | hx
  · exact .inl hy
  · exact .inr ⟨x, hx, hy⟩
theorem asks_left {L M : List GF} (h : asks L) : asks (L ++ M) := by
  obtain ⟨x, hx, hy⟩ := h
  exact ⟨x, List.mem_append_left _ hx, hy⟩
theorem tells_left {L M : List GF} (h : tells L) : tells (L ++ M) := by
  obtain ⟨x, hx, hy⟩ := h
  exact ⟨x, List.mem_append_left _ hx, hy⟩
theorem tells_right {L M : List GF} (h : tells M) : tells (L ++ M) := by
  obtain ⟨x, hx, hy⟩ := h
  exact ⟨x, List.mem_append_right _ hx, hy⟩

/-- b hears the first of L: towards b. -/
theorem Dirn.to {a b : Gn} {L M : List GF} {g : GF} {d : Cfg} (h : Dirn a b (g :: L) M) (hd : d.ok) (hb : b.ok d) (hf : b.free) (hg : g.ok) (h1 : b.A ≤ g.nr) (h2 : g.nr ≤ b.VM) : Dirn a (fstep d g b).1 L (M ++ (fstep d g b).2) := by
  obtain ⟨_, q2, _, _, q5, q6, _⟩ := fstep_all hd hb hf hg
  have hne : asks (g :: L) → asks L ∨ (tells (fstep d g b).2 ∧ ∀ x, lastp x (fstep d g b).2 = false) := fun h => (asks_cons h).symm.imp id (fun x => q6 x.1 x.2)
  have hst := fstep_step hb h1 h2
  refine ⟨fun hp => ?_, ?_, ?_, ?_⟩
  · rcases h.f3 hp with h3 | h3
    · rcases hne h3 with h4 | h4
      · exact .inl h4
      · exact .inr (tells_right h4.1)
    · exact .inr (tells_left h3)
  · refine h.f4.imp id (fun h4 => ?_)
    rw [q2]
    exact h4
  · by_cases hfs : (fstep d g b).2 = []
    · rw [hfs, List.append_nil]
      have hRV : (fstep d g b).1.RV = b.RV := by
        rw [q2, if_neg]
        intro x
        exact q5 x.1 x.2 hfs
      rw [hRV]
      rcases h.f5 with h5 | h5
      · rcases hne h5 with h6 | h6
        · exact .inl h6
        · obtain ⟨x, hx, _⟩ := h6.1
          rw [hfs] at hx
          cases hx
      · exact .inr h5
    · right
      rw [lastn_append]
      exact lastn_all _ _ hfs (fun x hx => (hst.fs x hx).2.1)
  · rcases h.f6 with h6 | h6
    · rcases hne h6 with h7 | h7
      · exact .inl h7
      · right
        rw [lastp_append]
        exact h7.2 _
    · right
      rw [lastp_append, h6]
      rcases fstep_lastp (c := d) (g := g) hd hf with z | z
      · exact z _
      · exact z _
/-- b hears the first of L: from b. -/
theorem Dirn.back {a b : Gn} {L M : List GF} {g : GF} {d : Cfg} (h : Dirn b a M (g :: L)) (hd : d.ok) (hb : b.ok d) (hf : b.free) (hg : g.ok) (h1 : b.A ≤ g.nr) (h2 : g.nr ≤ b.VM) (h3 : g.nr ≤ a.RV) : Dirn (fstep d g b).1 a (M ++ (fstep d g b).2) L := by
  obtain ⟨q1, _, q3, q4, _, _, _⟩ := fstep_all hd hb hf hg
  refine ⟨fun hp => ?_, ?_, ?_, ?_⟩
  · obtain ⟨z1, z2⟩ := q4 hp
    rcases h.f3 z1 with z | z
    · exact .inl (asks_left z)
    · rcases tells_cons z with z | z
      · exact absurd z z2
      · exact .inr z
  · rw [reach_append]
    refine fstep_reach hd hb hf hg h1 h2 _ (Nat.le_trans h3 (le_reach _ _)) h.f4
  · refine h.f5.imp asks_left (fun z => ?_)
    rw [q1]
    exact z
  · refine h.f6.imp asks_left (fun z => ?_)
    rw [q3]
    exact z

theorem Pk.flow1_none (h : p.inv c) (hf : (p.n (1 - i)).free) (hi : i < 2) (hL : p.L i = []) : p.flow1 c i = p := by
  have e1 : p.hand c i = p := by unfold Pk.hand; rw [hL]
  unfold Pk.flow1
  rw [e1]
  have hne : ({ p.n (1 - i) with came := [] } : Gn) = p.n (1 - i) := by
    have := hf.came
    generalize p.n (1 - i) = x at *
    cases x
    simp at this
    subst this
    rfl
  have e2 : gTaken (c (1 - i)) (p.n (1 - i)) = (p.n (1 - i), []) := by
    unfold gTaken gChange
    rw [hne]
    simp
  have hup : ∀ {α : Type} (f : Nat → α) (j : Nat), upd f j (f j) = f := by
    intro α f j
    funext x
    unfold upd
    split
    · rename_i e; rw [e]
    · rfl
  have hb := h.way i hi
  have ht : (p.n (1 - i)).RV = p.t i := by
    have h1 := hb.came
    rw [hf.came] at h1
    have h2 := congrArg List.length h1
    rw [List.length_drop, List.length_take] at h2
    have h3 := hb.tr
    have h4 := hb.rm
    have h5 := (h.ok i hi).vmn
    simp at h2
    omega
  unfold Pk.take Pk.step
  rw [e2, one_one hi]
  simp only [List.append_nil]
  rw [hup, hup, ht, hup]
theorem Pk.flow1_some {g : GF} {r : List GF} (hi : i < 2) (hL : p.L i = g :: r) : (p.flow1 c i).n = upd p.n (1 - i) (fstep (c (1 - i)) g (p.n (1 - i))).1 ∧ (p.flow1 c i).L = upd (upd p.L i r) (1 - i) (p.L (1 - i) ++ (fstep (c (1 - i)) g (p.n (1 - i))).2) := by
  have hne : 1 - i ≠ i := by omega
  have e1 : p.hand c i = Pk.step { p with L := upd p.L i r } (1 - i) (gHear (c (1 - i)) g (p.n (1 - i))) := by unfold Pk.hand; rw [hL]
  have hup : ∀ {α : Type} (f : Nat → α) (j : Nat) (a b : α), upd (upd f j a) j b = upd f j b := by
    intro α f j a b
    funext x
    unfold upd
    split <;> rfl
  unfold Pk.flow1
  rw [e1]
  refine ⟨?_, ?_⟩
  · show upd (upd p.n (1 - i) _) (1 - i) (gTaken (c (1 - i)) (upd p.n (1 - i) (gHear (c (1 - i)) g (p.n (1 - i))).1 (1 - i))).1 = _
    rw [hup, upd_same]
    rfl
  · show upd (upd (upd p.L i r) (1 - i) (upd p.L i r (1 - i) ++ (gHear (c (1 - i)) g (p.n (1 - i))).2)) (1 - i) (upd (upd p.L i r) (1 - i) (upd p.L i r (1 - i) ++ (gHear (c (1 - i)) g (p.n (1 - i))).2) (1 - i) ++ (gTaken (c (1 - i)) (upd p.n (1 - i) (gHear (c (1 - i)) g (p.n (1 - i))).1 (1 - i))).2) = _
    rw [hup, upd_same, upd_same, upd_other _ _ hne, List.append_assoc]
    rfl

theorem Pk.calm.flow (h : p.calm c) (hT : Two c) (hi : i < 2) : (p.flow1 c i).calm c ∧ (p.flow1 c i).pot 30 2 1 31 30 ≤ p.pot 30 2 1 31 30 ∧ (p.L i ≠ [] → (p.flow1 c i).pot 30 2 1 31 30 + 1 ≤ p.pot 30 2 1 31 30) ∧ ∀ j, j < 2 → ((p.flow1 c i).n j).gv = (p.n j).gv := by
  have hj : 1 - i < 2 := by omega
  have hne : 1 - i ≠ i := by omega
  have hne' : i ≠ 1 - i := by omega
  cases hL : p.L i with
  | nil =>
    rw [Pk.flow1_none h.inv (h.fr _ hj) hi hL]
    exact ⟨h, Nat.le_refl _, fun e => absurd rfl e, fun _ _ => rfl⟩
  | cons g r =>
    obtain ⟨en, eL⟩ := Pk.flow1_some (c := c) hi hL
    obtain ⟨f0, f1, f2, _⟩ := h.inv.fits hT hi hL
    have hok := h.inv.ok _ hj
    have hfr := h.fr _ hj
    have hinv : (p.flow1 c i).inv c := (h.inv.heard hT hi).taken hj
    have hw := h.inv.way i hi
    rw [hL] at hw
    have hnr := (hw.nr g (List.mem_cons_self ..)).2
    have hall := fstep_all (hT.ok _ hj) hok hfr f0
    have n1 : (p.flow1 c i).n i = p.n i := by rw [en, upd_other _ _ hne']
    have n2 : (p.flow1 c i).n (1 - i) = (fstep (c (1 - i)) g (p.n (1 - i))).1 := by rw [en, upd_same]
    have L1 : (p.flow1 c i).L i = r := by rw [eL, upd_other _ _ hne', upd_same]
    have L2 : (p.flow1 c i).L (1 - i) = p.L (1 - i) ++ (fstep (c (1 - i)) g (p.n (1 - i))).2 := by rw [eL, upd_same]
    have hd1 := h.dir i hi
    rw [hL] at hd1
    have hd2 := h.dir (1 - i) hj
    rw [one_one hi, hL] at hd2
    have hpot : (p.flow1 c i).pot 30 2 1 31 30 + 1 ≤ p.pot 30 2 1 31 30 := by
      rw [Pk.pot_both 30 2 1 31 30 hi, Pk.pot_both (p := p) 30 2 1 31 30 hi]
      unfold Pk.pot1
      rw [one_one hi, n1, n2, L1, L2, hL, wtL_append, hall.2.2.2.2.2.2]
      have hN : g.k = 1 → g.ns = (p.n (1 - i)).RV → (p.n (1 - i)).RV < (p.n i).gv.length := fun e1 e2 => by
        have := (hw.isn g (List.mem_cons_self ..) e1).1
        have := (h.inv.ok i hi).vmn
        omega
      have q := fstep_pot (N := (p.n i).gv.length) (hT.ok _ hj) hok hfr f0 f1 f2 hN
      show _ + _ + wtL 2 1 r + (_ + _ + (_ + _)) + 1 ≤ _ + _ + (wtG 2 1 g + wtL 2 1 r) + _
      omega
    refine ⟨⟨hinv, both hi ?_ ?_, both hi ?_ ?_, both hi ?_ ?_⟩, by omega, fun _ => hpot, both hi ?_ ?_⟩
    · rw [n1]; exact h.fr i hi
    · rw [n2]; exact fstep_free hfr
    · rw [n1]; exact h.si i hi
    · rw [n2]; exact fstep_si (hT.ok _ hj) hok (h.si _ hj) f1 f2
    · rw [n1, n2, L1, L2]
      exact hd1.to (hT.ok _ hj) hok hfr f0 f1 f2
    · rw [one_one hi, n1, n2, L1, L2]
      exact hd2.back (hT.ok _ hj) hok hfr f0 f1 f2 hnr
    · rw [n1]
    · rw [n2]; exact hall.2.2.2.2.2.2
/-- Nothing is on its way: all has come. -/
theorem Pk.calm.all (h : p.calm c) (hT : Two c) (h0 : p.L 0 = []) (h1 : p.L 1 = []) (hi : i < 2) : (p.n i).A = (p.n i).gv.length ∧ (p.n (1 - i)).RV = (p.n i).gv.length ∧ p.t i = (p.n i).gv.length ∧ (p.n i).polling = false ∧ (p.n i).peer = false := by
  have hL : p.L i = [] := by
    have : i = 0 ∨ i = 1 := by omega
    rcases this with rfl | rfl <;> assumption
  have hM : p.L (1 - i) = [] := by
    have : i = 0 ∨ i = 1 := by omega
    rcases this with rfl | rfl <;> assumption
  have hd := h.dir i hi
  rw [hL, hM] at hd
  have na : ¬ asks [] := fun ⟨_, hx, _⟩ => by cases hx
  have nt : ¬ tells [] := fun ⟨_, hx, _⟩ => by cases hx
  have hpo : (p.n i).polling = false := by
    cases e : (p.n i).polling with
    | false => rfl
    | true => rcases hd.f3 e with z | z; exact absurd z na; exact absurd z nt
  have h5 : (p.n i).A = (p.n (1 - i)).RV := by rcases hd.f5 with z | z; exact absurd z na; exact z
  have h6 : (p.n i).peer = false := by rcases hd.f6 with z | z; exact absurd z na; exact z
  have h4 : (p.n i).VS ≤ (p.n (1 - i)).RV := by rcases hd.f4 with z | z; rw [hpo] at z; cases z; exact z
  have hpu := (h.si i hi).pu hpo h6
  have hw := (hT.ok i hi).win1
  have ho := h.inv.ok i hi
  have o1 := ho.avs
  have o2 := ho.vsm
  have o3 := ho.vmn
  have hb := h.inv.way i hi
  have hA : (p.n i).A = (p.n i).gv.length := by omega
  refine ⟨hA, by omega, ?_, hpo, h6⟩
  have c1 := hb.came
  rw [(h.fr (1 - i) (by omega)).came] at c1
  have c2 := congrArg List.length c1
  rw [List.length_drop, List.length_take] at c2
  have c3 := hb.tr
  simp at c2
  omega
end
end Go.Proofs.YtkalonhalhdlaaaDoor
