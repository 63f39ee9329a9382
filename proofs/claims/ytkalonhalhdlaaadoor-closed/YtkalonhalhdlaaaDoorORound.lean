/-
  A round of Arrives: the timers run out, all that is on its way comes, and then all has come.
-/
import Derived.Test.YtkalonhalhdlaaaDoorOMove
import Derived.Test.YtkalonhalhdlaaaDoorKFlow
namespace Go.Proofs.YtkalonhalhdlaaaDoor
open Go

section
variable {c : Nat → Cfg} {k : Lk} {p : Pk} {i : Nat}
/-- One step of flows. -/
theorem Sim.flow (h : Sim c k p) (hv : p.inv c) (hT : Two c) (hi : i < 2) (hs : k.still) : k.flowOk c i = true ∧ Sim c (k.flow1 c i) (p.flow1 c i) ∧ (k.flow1 c i).still := by
  obtain ⟨a1, a2⟩ := h.hand hv hT hi (fun j hj => (hs j hj).1)
  have hj : 1 - i < 2 := by omega
  have hv2 := hv.heard hT hi
  obtain ⟨b1, b2⟩ := a2.take hv2 hj
  refine ⟨?_, b2.look.1, Lk.look_still⟩
  unfold Lk.flowOk
  rw [a1, b1]
  rfl
/-- Are frames on their way? -/
theorem Sim.empty (h : Sim c k p) (hs : k.still) (hi : i < 2) : k.l i = [] ↔ p.L i = [] := by
  have := h.ch i hi
  rw [(hs i hi).1, List.append_nil] at this
  rw [this, List.map_eq_nil_iff]
/-- One round of flows. -/
theorem Sim.round (h : Sim c k p) (hv : p.calm c) (hT : Two c) (hs : k.still) (n : Nat) (he : ¬ (p.L 0 = [] ∧ p.L 1 = [])) :
    flowsL c (n + 1) k = flowsL c n ((k.flow1 c 0).flow1 c 1) ∧ Sim c ((k.flow1 c 0).flow1 c 1) ((p.flow1 c 0).flow1 c 1) ∧ ((p.flow1 c 0).flow1 c 1).calm c ∧ ((k.flow1 c 0).flow1 c 1).still := by
  obtain ⟨a1, a2, a4⟩ := h.flow hv.inv hT (show 0 < 2 by omega) hs
  have a3 := (hv.flow hT (show 0 < 2 by omega)).1
  obtain ⟨b1, b2, b4⟩ := a2.flow a3.inv hT (show 1 < 2 by omega) a4
  have b3 := (a3.flow hT (show 1 < 2 by omega)).1
  refine ⟨?_, b2, b3, b4⟩
  have e0 := h.empty hs (show 0 < 2 by omega)
  have e1 := h.empty hs (show 1 < 2 by omega)
  rw [flowsL, if_neg (fun x => he ⟨e0.1 x.1, e1.1 x.2⟩)]
  show flowIn c (flowsL c n) (1 + 1) k = _
  rw [flowIn]
  show (if k.flowOk c 0 = false then _ else _) = _
  rw [a1, if_neg (by simp)]
  show (if (k.flow1 c 0).en = true then _ else _) = _
  rw [a2.en, if_neg (by simp)]
  show flowIn c (flowsL c n) (0 + 1) (k.flow1 c 0) = _
  rw [flowIn]
  show (if (k.flow1 c 0).flowOk c 1 = false then _ else _) = _
  rw [b1, if_neg (by simp)]
  show (if ((k.flow1 c 0).flow1 c 1).en = true then _ else _) = _
  rw [b2.en, if_neg (by simp)]
  rfl
/-- It ends. -/
theorem flows_end (hT : Two c) : ∀ (n : Nat) {k : Lk} {p : Pk}, Sim c k p → p.calm c → k.still → p.pot 30 2 1 31 30 < n → ∃ k' p', flowsL c n k = (true, k') ∧ Sim c k' p' ∧ p'.calm c ∧ k'.still ∧ p'.L 0 = [] ∧ p'.L 1 = [] ∧ ∀ j, j < 2 → (p'.n j).gv = (p.n j).gv := by
  intro n
  induction n with
  | zero => intro k p _ _ _ h; omega
  | succ n ih =>
    intro k p h hv hs hp
    by_cases he : p.L 0 = [] ∧ p.L 1 = []
    · refine ⟨k, p, ?_, h, hv, hs, he.1, he.2, fun _ _ => rfl⟩
      rw [flowsL, if_pos ⟨(h.empty hs (by omega)).2 he.1, (h.empty hs (by omega)).2 he.2⟩]
    · obtain ⟨r1, r2, r3, r4⟩ := h.round hv hT hs n he
      obtain ⟨q1, q2, q3, q4⟩ := hv.flow hT (show 0 < 2 by omega)
      obtain ⟨s1, s2, s3, s4⟩ := q1.flow hT (show 1 < 2 by omega)
      have hlt : ((p.flow1 c 0).flow1 c 1).pot 30 2 1 31 30 < n := by
        by_cases e0 : p.L 0 = []
        · have e1 : p.L 1 ≠ [] := fun x => he ⟨e0, x⟩
          have e2 : (p.flow1 c 0) = p := Pk.flow1_none hv.inv (hv.fr 1 (by omega)) (by omega) e0
          rw [e2] at s3 ⊢
          have := s3 e1
          omega
        · have := q3 e0
          omega
      obtain ⟨k', p', z1, z2, z3, z4, z5, z6, z7⟩ := ih r2 r3 r4 hlt
      exact ⟨k', p', r1.trans z1, z2, z3, z4, z5, z6, fun j hj => (z7 j hj).trans ((s4 j hj).trans (q4 j hj))⟩
end

/-- Ahead of a round. -/
structure Pk.ready (c : Nat → Cfg) (p : Pk) : Prop where
  inv : p.inv c
  fr : ∀ i, i < 2 → (p.n i).free
  si : ∀ i, i < 2 → (p.n i).si (c i)
  says : ∀ i, i < 2 → Says (c i) (p.n i) (p.L i)
  pot : p.pot 30 2 1 31 30 ≤ 4000
/-- All has come. -/
def Pk.done (p : Pk) : Prop := ∀ i, i < 2 → (p.n i).A = (p.n i).gv.length ∧ p.t i = (p.n i).gv.length

/-- A station has ticked t times. -/
def Ticked (c : Cfg) (n0 : Gn) (L0 : List GF) (t : Nat) (n : Gn) (L : List GF) : Prop :=
  (n0.timer = 0 ∧ n = n0 ∧ L = L0) ∨ (0 < n0.timer ∧ t < n0.timer ∧ n = { n0 with timer := n0.timer - t } ∧ L = L0) ∨ (0 < n0.timer ∧ n0.timer ≤ t ∧ (∃ tr, n = { n0 with polling := true, timer := c.tim - (t - n0.timer), tries := tr }) ∧ L = L0 ++ [gPoll c n0])
theorem Ticked.zero (c : Cfg) (n0 : Gn) (L0 : List GF) : Ticked c n0 L0 0 n0 L0 := by
  by_cases h : n0.timer = 0
  · exact .inl ⟨h, rfl, rfl⟩
  · exact .inr (.inl ⟨by omega, by omega, rfl, rfl⟩)
theorem Ticked.more {c : Cfg} {n0 n : Gn} {L0 L : List GF} {t : Nat} (h : Ticked c n0 L0 t n L) (ht : t < c.tim) (hx : n0.timer ≤ c.tim) {r : Gn × List GF} (hr : gTick c n = some r) : Ticked c n0 L0 (t + 1) r.1 (L ++ r.2) := by
  rcases h with ⟨h1, rfl, rfl⟩ | ⟨h1, h2, rfl, rfl⟩ | ⟨h1, h2, ⟨tr, rfl⟩, rfl⟩
  · unfold gTick at hr
    rw [if_pos h1] at hr
    cases hr
    exact .inl ⟨h1, rfl, by simp⟩
  · unfold gTick at hr
    dsimp only at hr
    rw [if_neg (by omega)] at hr
    by_cases e : n0.timer - t = 1
    · rw [if_pos e] at hr
      split at hr
      · cases hr
      · cases hr
        refine .inr (.inr ⟨h1, by omega, ⟨n0.tries + 1, ?_⟩, rfl⟩)
        rw [show c.tim - (t + 1 - n0.timer) = c.tim by omega]
    · rw [if_neg e] at hr
      cases hr
      refine .inr (.inl ⟨h1, by omega, ?_, by simp⟩)
      rw [show n0.timer - (t + 1) = n0.timer - t - 1 by omega]
  · unfold gTick at hr
    dsimp only at hr
    rw [if_neg (by omega), if_neg (by omega)] at hr
    cases hr
    refine .inr (.inr ⟨h1, by omega, ⟨tr, ?_⟩, by simp⟩)
    rw [show c.tim - (t + 1 - n0.timer) = c.tim - (t - n0.timer) - 1 by omega]

section
variable {c : Nat → Cfg} {k : Lk} {p : Pk} {i : Nat}
theorem Sim.tick2 (h : Sim c k p) (hi : i < 2) : (tickS (c i) (k.s i)).events ≠ [] ∨ ∃ r, gTick (c i) (p.n i) = some r ∧ Sim c (k.tick c i) (p.step i r) := by
  rcases tick_r (h.rel i hi) with e | ⟨r, hr, hg⟩
  · exact .inl e
  · right
    refine ⟨r, hr, h.step hi hg ?_⟩
    unfold gTick at hr
    split at hr
    · cases hr; rfl
    · split at hr
      · split at hr
        · cases hr
        · cases hr; rfl
      · cases hr; rfl
/-- Both have ticked t times: one of them has told an event, or all goes on. -/
def TickInv (c : Nat → Cfg) (p : Pk) (t : Nat) (k : Lk) : Prop :=
  (∃ i, i < 2 ∧ (k.s i).events ≠ []) ∨ ∃ q, Sim c k q ∧ q.inv c ∧ q.t = p.t ∧ ∀ i, i < 2 → Ticked (c i) (p.n i) (p.L i) t (q.n i) (q.L i)
theorem tick_events (h : ∃ j, j < 2 ∧ (k.s j).events ≠ []) : ∃ j, j < 2 ∧ ((k.tick c i).s j).events ≠ [] := by
  obtain ⟨j, hj, h⟩ := h
  refine ⟨j, hj, ?_⟩
  show (upd k.s i (tickS (c i) (k.s i)) j).events ≠ []
  by_cases e : j = i
  · subst e
    rw [upd_same]
    obtain ⟨_, y, hy, _⟩ := tickS_grows (c := c j) (s := k.s j)
    rw [hy]
    simp [h]
  · rw [upd_other _ _ e]; exact h
theorem TickInv.more {t : Nat} (h : TickInv c p t k) (ht : ∀ i, i < 2 → t < (c i).tim) (hx : ∀ i, i < 2 → (p.n i).timer ≤ (c i).tim) : TickInv c p (t + 1) ((k.tick c 0).tick c 1) := by
  rcases h with h | ⟨q, hq, hv, hqt, hk⟩
  · exact .inl (tick_events (tick_events h))
  · rcases hq.tick2 (show 0 < 2 by omega) with e | ⟨r0, hr0, s0⟩
    · exact .inl (tick_events ⟨0, by omega, by show (upd k.s 0 _ 0).events ≠ []; rw [upd_same]; exact e⟩)
    · obtain ⟨st0, x1, x2, x3⟩ := gTick_step (hv.ok 0 (by omega)) hr0
      have hv0 := hv.step (show 0 < 2 by omega) st0 x1 x2 x3
      rcases s0.tick2 (show 1 < 2 by omega) with e | ⟨r1, hr1, s1⟩
      · exact .inl ⟨1, by omega, by show (upd (k.tick c 0).s 1 _ 1).events ≠ []; rw [upd_same]; exact e⟩
      · obtain ⟨st1, y1, y2, y3⟩ := gTick_step (hv0.ok 1 (by omega)) hr1
        have hv1 := hv0.step (show 1 < 2 by omega) st1 y1 y2 y3
        have hr1' : gTick (c 1) (q.n 1) = some r1 := hr1
        refine .inr ⟨_, s1, hv1, hqt, both (show 0 < 2 by omega) ?_ ?_⟩
        · exact (hk 0 (by omega)).more (ht 0 (by omega)) (hx 0 (by omega)) hr0
        · exact (hk 1 (by omega)).more (ht 1 (by omega)) (hx 1 (by omega)) hr1'
theorem look_en (h : ∃ i, i < 2 ∧ (k.s i).events ≠ []) : k.look.en = true := by
  obtain ⟨i, hi, h⟩ := h
  have hp := List.length_pos_iff.2 h
  show endTo k.s k.en 2 = true
  have hc : i = 0 ∨ i = 1 := by omega
  rcases hc with rfl | rfl <;> simp [endTo, hp]
end
end Go.Proofs.YtkalonhalhdlaaaDoor
