/-
  What one call of flows does to the link.
-/
import Derived.Test.YtkalonhalhdlaaaDoorKFines
import Derived.Deep.Cut
import Derived.Deep.CutRange
namespace Go.Proofs.YtkalonhalhdlaaaDoor
open Go.RowKit

/-- The first frame from i comes; what came is taken; what has gone out is on its way. -/
def Lk.flow1 (c : Nat → Cfg) (k : Lk) (i : Nat) : Lk := ((k.hand c i false).take c (1 - i)).look
def Lk.flowOk (c : Nat → Cfg) (k : Lk) (i : Nat) : Bool := handOk c k.s k.l i false && (k.hand c i false).takeOk (1 - i)
def flowIn (c : Nat → Cfg) (F : Lk → Bool × Lk) : Nat → Lk → Bool × Lk
  | 0, k => F k
  | d + 1, k => if k.flowOk c (1 - d) = false then (false, k.flow1 c (1 - d)) else if (k.flow1 c (1 - d)).en = true then (true, k.flow1 c (1 - d)) else flowIn c F d (k.flow1 c (1 - d))
def flowsL (c : Nat → Cfg) : Nat → Lk → Bool × Lk
  | 0, k => (false, k)
  | n + 1, k => if k.l 0 = [] ∧ k.l 1 = [] then (true, k) else flowIn c (flowsL c n) 2 k

section
variable {c : Nat → Cfg} {k : Lk} {r i : Nat}
def Lk.still (k : Lk) : Prop := ∀ j, j < 2 → (k.s j).out = [] ∧ (k.s j).events = []
theorem Lk.look_still : k.look.still := by
  intro j hj
  show (lookedTo k.s 2 j).out = [] ∧ (lookedTo k.s 2 j).events = []
  unfold lookedTo
  rw [if_pos hj]
  exact ⟨rfl, rfl⟩
theorem Lk.look_l {j : Nat} (hj : j < 2) : k.look.l j = k.l j ++ (k.s j).out := by
  show wayTo k.s k.l 2 j = _
  unfold wayTo
  rw [if_pos hj]
/-- Two moves from a still link, and the looking behind them. -/
theorem Lk.fine_two (h : k.fine r) (hs : k.still) {kd kd' i' : Nat} {on on' : Bool} :
    ((∀ j, j < 2 → ((k.move c kd i on).s j).out.length ≤ 18) ∧ (∀ j, j < 2 → ((k.move c kd i on).n j).length ≤ r + 1) ∧ ∀ j, j < 2 → (k.move c kd i on).t j ≤ r + 1) ∧
    (∀ j, j < 2 → (((k.move c kd i on).move c kd' i' on').l j).length + (((k.move c kd i on).move c kd' i' on').s j).out.length ≤ 64 * r + 36) ∧ ((k.move c kd i on).move c kd' i' on').look.fine (r + 2) := by
  have g : ∀ j, j < 2 → ((k.move c kd i on).s j).out.length ≤ 18 ∧ (∀ m ∈ ((k.move c kd i on).s j).out, m.length ≤ 64) ∧ ((k.move c kd i on).s j).events.length ≤ 2 := by
    intro j hj
    obtain ⟨⟨x, x1, x2, x3⟩, y, y1, y2⟩ := Lk.move_s (c := c) (k := k) (kd := kd) (i := i) (on := on) j
    rw [(hs j hj).1, List.nil_append] at x1
    rw [(hs j hj).2, List.nil_append] at y1
    rw [x1, y1]
    exact ⟨x2, x3, y2⟩
  have hn : ∀ j, j < 2 → ((k.move c kd i on).n j).length ≤ r + 1 := fun j hj => by
    have := Lk.move_n (c := c) (k := k) (kd := kd) (i := i) (on := on) j
    have := h.n j hj
    omega
  have ht : ∀ j, j < 2 → (k.move c kd i on).t j ≤ ((k.move c kd i on).n j).length := fun j hj => Lk.move_t h.t j hj
  have hl : ∀ j, j < 2 → ((k.move c kd i on).l j).length ≤ 64 * r := fun j hj => by
    have := (Lk.move_l (c := c) (k := k) (kd := kd) (i := i) (on := on) j).2
    have := h.l j hj
    omega
  have hml : ∀ j, j < 2 → ∀ m ∈ (k.move c kd i on).l j, m.length ≤ 64 := fun j hj m hm => h.ml j hj m ((Lk.move_l j).1 m hm)
  generalize k.move c kd i on = k1 at *
  have g2 : ∀ j, j < 2 → ((k1.move c kd' i' on').s j).out.length ≤ 36 ∧ ∀ m ∈ ((k1.move c kd' i' on').s j).out, m.length ≤ 64 := by
    intro j hj
    obtain ⟨⟨x, x1, x2, x3⟩, _⟩ := Lk.move_s (c := c) (k := k1) (kd := kd') (i := i') (on := on') j
    have g1 := g j hj
    refine ⟨by rw [x1, List.length_append]; omega, fun m hm => ?_⟩
    rw [x1] at hm
    rcases List.mem_append.1 hm with hm | hm
    · exact g1.2.1 m hm
    · exact x3 m hm
  have hl2 : ∀ j, j < 2 → ((k1.move c kd' i' on').l j).length + ((k1.move c kd' i' on').s j).out.length ≤ 64 * r + 36 := fun j hj => by
    have := (Lk.move_l (c := c) (k := k1) (kd := kd') (i := i') (on := on') j).2
    have := hl j hj
    have := (g2 j hj).1
    omega
  refine ⟨⟨fun j hj => (g j hj).1, hn, fun j hj => Nat.le_trans (ht j hj) (hn j hj)⟩, hl2, ⟨fun j hj => ?_, fun j hj m hm => ?_, fun j hj => ?_, fun j hj m hm => ?_, fun j hj => ?_, fun j hj => ?_, fun j hj => ?_⟩⟩
  · rw [(Lk.look_still j hj).1]; simp
  · rw [(Lk.look_still j hj).1] at hm; simp at hm
  · rw [(Lk.look_still j hj).2]; simp
  · rw [Lk.look_l hj] at hm
    rcases List.mem_append.1 hm with hm | hm
    · exact hml j hj m ((Lk.move_l j).1 m hm)
    · exact (g2 j hj).2 m hm
  · rw [Lk.look_l hj, List.length_append]
    have := hl2 j hj
    omega
  · show ((k1.move c kd' i' on').n j).length ≤ r + 2
    have := Lk.move_n (c := c) (k := k1) (kd := kd') (i := i') (on := on') j
    have := hn j hj
    omega
  · exact Lk.move_t ht j hj
theorem Lk.hand_move (i : Nat) : k.hand c i false = k.move c 3 i false := rfl
theorem Lk.take_move (i : Nat) : k.take c i = k.move c 8 i false := rfl
theorem Lk.flow1_fine (h : k.fine r) (hs : k.still) (i : Nat) : (k.flow1 c i).fine (r + 2) ∧ (k.flow1 c i).still := ⟨(Lk.fine_two (c := c) (kd := 3) (i := i) (on := false) (kd' := 8) (i' := 1 - i) (on' := false) h hs).2.2, Lk.look_still⟩
end

section
variable {B : Fen} {w w1 : World} {kb : Nat} {b : Nat → Nat} {c : Nat → Cfg} {k : Lk}
theorem hands_at (h : k.at B w kb b c w1) (hB : B.top ≤ w.heap.size) (hs : k.small) (i : Nat) (hi : i < 2) (lost : Bool) :
    Calls Tryd.prog 40 #[.pointer (some ⟨kb, 0, none⟩), .int .i64 i, .bool lost] w1 fun e w' => e = .returned (.bool (handOk c k.s k.l i lost)) ∧ (k.hand c i lost).at B w kb b c w' := by
  obtain ⟨own, v, g, h1, h2, h3⟩ := h
  refine (hands_link h1 h2 (Nat.le_trans hB h3.size) i hi lost (hs.ml i hi) (hs.out (1 - i) (by omega)) (hs.ev (1 - i) (by omega))).mono ?_
  rintro e w' ⟨rfl, h4⟩
  exact ⟨rfl, h4.from h3⟩
theorem takes_at (h : k.at B w kb b c w1) (hB : B.top ≤ w.heap.size) (i : Nat) (hi : i < 2) (ht : k.t (1 - i) ≤ 1000000) (hn : (k.n (1 - i)).length ≤ 1000000) (ho : (k.s i).out.length + 18 ≤ 2199023255552) :
    Calls Tryd.prog 28 #[.pointer (some ⟨kb, 0, none⟩), .int .i64 i] w1 fun e w' => e = .returned (.bool (k.takeOk i)) ∧ (k.take c i).at B w kb b c w' := by
  obtain ⟨own, v, g, h1, h2, h3⟩ := h
  refine (takes_link h1 h2 (Nat.le_trans hB h3.size) i hi ht hn ho).mono ?_
  rintro e w' ⟨rfl, h4⟩
  exact ⟨rfl, h4.from h3⟩
/-- One step of flows: three calls. -/
theorem flow_at (h : k.at B w kb b c w1) (hB : B.top ≤ w.heap.size) {r : Nat} (hf : k.fine r) (hs : k.still) (hr : r ≤ 900000) (i : Nat) (hi : i < 2) :
    (Calls Tryd.prog 40 #[.pointer (some ⟨kb, 0, none⟩), .int .i64 i, .bool false] w1 fun e w' => e = .returned (.bool (handOk c k.s k.l i false)) ∧ (k.hand c i false).at B w kb b c w') ∧
    (∀ w2, (k.hand c i false).at B w kb b c w2 → Calls Tryd.prog 28 #[.pointer (some ⟨kb, 0, none⟩), .int .i64 (1 - i : Nat)] w2 fun e w' => e = .returned (.bool ((k.hand c i false).takeOk (1 - i))) ∧ ((k.hand c i false).take c (1 - i)).at B w kb b c w') ∧
    (∀ w3, ((k.hand c i false).take c (1 - i)).at B w kb b c w3 → Calls Tryd.prog 26 #[.pointer (some ⟨kb, 0, none⟩)] w3 fun e w' => e = .returned (.bool true) ∧ (k.flow1 c i).at B w kb b c w') := by
  obtain ⟨⟨q1, q2, q3⟩, q4, _⟩ := Lk.fine_two (c := c) (kd := 3) (i := i) (on := false) (kd' := 8) (i' := 1 - i) (on' := false) hf hs
  have hj : 1 - i < 2 := by omega
  have hjj : 1 - (1 - i) < 2 := by omega
  refine ⟨hands_at h hB (Lk.small_of hf (by omega)) i hi false, fun w2 h2 => takes_at h2 hB (1 - i) hj ?_ ?_ ?_, fun w3 h3 => looks_at h3 hB ?_⟩
  · have := q3 _ hjj
    exact Nat.le_trans this (by omega)
  · have := q2 _ hjj
    exact Nat.le_trans this (by omega)
  · have := q1 _ hj
    have : ((k.hand c i false).s (1 - i)).out.length ≤ 18 := this
    omega
  · intro j hj
    have := q4 j hj
    exact Nat.le_trans this (by omega)
end

/-- Behind n rounds. -/
def FlowInv (B : Fen) (w : World) (kb : Nat) (b : Nat → Nat) (c : Nat → Cfg) (k : Lk) (r n : Nat) (wr : World) : Prop :=
  ∃ k' : Lk, k'.at B w kb b c wr ∧ k'.fine (r + 4 * n) ∧ k'.still ∧ flowsL c (5000 - n) k' = flowsL c 5000 k
/-- Behind j of two steps. -/
def FlowIn (B : Fen) (w : World) (kb : Nat) (b : Nat → Nat) (c : Nat → Cfg) (R : Bool × Lk) (m r j : Nat) (wr : World) : Prop :=
  ∃ k' : Lk, k'.at B w kb b c wr ∧ k'.fine (r + 2 * j) ∧ k'.still ∧ flowIn c (flowsL c m) (2 - j) k' = R

set_option maxHeartbeats 8000000 in
set_option maxRecDepth 100000 in
theorem flows_link {B : Fen} {w0 w : World} {kb : Nat} {b : Nat → Nat} {c : Nat → Cfg} {k : Lk} (h : k.at B w0 kb b c w) (hB : B.top ≤ w0.heap.size) {r : Nat} (hf : k.fine r) (hs : k.still) (hr : r ≤ 800000) :
    Calls Tryd.prog 27 #[.pointer (some ⟨kb, 0, none⟩)] w fun e w' => e = .returned (.bool (flowsL c 5000 k).1) ∧ (flowsL c 5000 k).2.at B w0 kb b c w' := by
  have HI : Hid (FlowInv B w0 kb b c k r 0 w) := hide ⟨k, h, hf, hs, rfl⟩
  clear h hf hs
  go_enter Tryd.func27, Tryd.ntmps27
  go_wp2
  go_loopg [3] 5000 (fun g i wr => ∃ n : Nat, n + g = 5000 ∧ i = .int .i64 n ∧ FlowInv B w0 kb b c k r n wr)
  case atStart => exact ⟨0, rfl, rfl, unhide HI⟩
  case round =>
    obtain ⟨n, hng, rfl, k1, h1, f1, s1, e1⟩ := hrel
    clear HI
    by_cases hn : n < 5000
    · have hni : (n : Int) < 5000 := by omega
      obtain ⟨m, hm⟩ : ∃ m, 5000 - n = m + 1 := ⟨4999 - n, by omega⟩
      rw [hm] at e1
      obtain ⟨own, v, g, hK, hlo, hbl⟩ := h1
      obtain ⟨p0, c0, ev0, z0⟩ := hK.way 0 (by omega)
      obtain ⟨p1, c1, ev1, z1⟩ := hK.way 1 (by omega)
      have cW0 : wr.cell? ⟨kb, 2, none⟩ = some (v 0) := hK.cell 2 rfl
      have cW1 : wr.cell? ⟨kb, 3, none⟩ = some (v 1) := hK.cell 3 rfl
      rw [ev0] at cW0
      rw [ev1] at cW1
      have H1 : Hid (k1.at B w0 kb b c wr) := hide ⟨own, v, g, hK, hlo, hbl⟩
      clear hK hlo hbl ev0 ev1 z0 z1
      by_cases he : k1.l 0 = [] ∧ k1.l 1 = []
      · have e2 : flowsL c (m + 1) k1 = (true, k1) := by unfold flowsL; rw [if_pos he]
        rw [e2] at e1
        have l0 : (k1.l 0).length = 0 := by rw [he.1]; rfl
        have l1 : (k1.l 1).length = 0 := by rw [he.2]; rfl
        rw [l0] at cW0
        rw [l1] at cW1
        have HR : Hid (flowsL c 5000 k = (true, k1)) := hide e1.symm
        clear e1 e2 he f1 s1 l0 l1
        go_wp2
        go_ret
        rw [unhide HR]
        exact ⟨rfl, unhide H1⟩
      · have e2 : flowsL c (m + 1) k1 = flowIn c (flowsL c m) 2 k1 := by rw [flowsL, if_neg he]
        rw [e2] at e1
        have HN : Hid (FlowIn B w0 kb b c (flowsL c 5000 k) m (r + 4 * n) 0 wr) := hide ⟨k1, unhide H1, f1, s1, e1⟩
        have hl : (k1.l 0).length ≠ 0 ∨ ((k1.l 0).length = 0 ∧ (k1.l 1).length ≠ 0) := by
          by_cases q0 : k1.l 0 = []
          · exact .inr ⟨by rw [q0]; rfl, fun q1 => he ⟨q0, List.length_eq_zero_iff.1 q1⟩⟩
          · exact .inl (fun q => q0 (List.length_eq_zero_iff.1 q))
        clear e1 e2 he H1 f1 s1
        generalize (k1.l 0).length = len0 at *
        generalize (k1.l 1).length = len1 at *
        go_upto_region 4 with fail
        go_cut [27] from 8 to 54 (fun s27 wx => s27 = .bool false ∧ wx = wr)
        case first =>
          rcases hl with hl | ⟨hl, hl2⟩
          · have hli : ¬ (len0 : Int) = 0 := by omega
            have hlb : ((len0 : Int) == 0) = false := by simp; omega
            go_wp2
            go_meet
            case rel => exact ⟨rfl, rfl⟩
          · subst hl
            have hli : ¬ (len1 : Int) = 0 := by omega
            have hlb : ((len1 : Int) == 0) = false := by simp; omega
            go_wp2
            go_meet
            case rel => exact ⟨rfl, rfl⟩
        case rest =>
          obtain ⟨rfl, rfl⟩ := hcut
          go_wp2
          go_loopg [4] 2 (fun g i wx => ∃ j : Nat, j + g = 2 ∧ i = .int .i64 j ∧ FlowIn B w0 kb b c (flowsL c 5000 k) m (r + 4 * n) j wx)
          case atStart => exact ⟨0, rfl, rfl, unhide HN⟩
          case round =>
            obtain ⟨j, hjk, rfl, k2, h2, f2, s2, e2⟩ := hrel
            clear HN
            by_cases hj : j < 2
            · have hjl : r + 4 * n + 2 * j ≤ 900000 := by omega
              have hq := flow_at h2 hB f2 s2 hjl j hj
              have hcj : j = 0 ∨ j = 1 := by omega
              have hd : 2 - j = (1 - j) + 1 := by omega
              have hjj : 1 - (1 - j) = j := by omega
              rw [hd, flowIn, hjj] at e2
              have hfo : k2.flowOk c j = (handOk c k2.s k2.l j false && (k2.hand c j false).takeOk (1 - j)) := rfl
              rw [hfo] at e2
              have f3 := (Lk.flow1_fine (c := c) f2 s2 j).1
              have s3 := (Lk.flow1_fine (c := c) f2 s2 j).2
              have HE : Hid ((∀ k', k' = k2.flow1 c j → k'.fine (r + 4 * n + 2 * (j + 1)) ∧ k'.still)) := hide (fun k' e => by rw [e]; exact ⟨f3, s3⟩)
              have HE2 := hide e2
              clear h2 f2 s2 f3 s3 e2 hd hfo hjl
              obtain ⟨q1, q2, q3⟩ := hq
              have Q1 := hide q1
              have Q2 := hide q2
              have Q3 := hide q3
              clear q1 q2 q3
              generalize k2.flow1 c j = k3 at *
              generalize handOk c k2.s k2.l j false = oa at *
              generalize (k2.hand c j false).takeOk (1 - j) = ob at *
              rcases hcj with rfl | rfl
              · have q1' := unhide Q1
                clear Q1
                have q2' := unhide Q2
                clear Q2
                rw [show ((1 - 0 : Nat) : Int) = 1 from rfl] at q2'
                rw [show ((0 : Nat) : Int) = 0 from rfl] at q1'
                have Q1 := hide q1'
                have Q2 := hide q2'
                clear q1' q2'
                rw [show ((0 : Nat) : Int) = 0 from rfl]
                go_wp2_with fail
                refine (unhide Q1).mono ?_
                rintro e w2 ⟨rfl, h2⟩
                clear Q1
                have K2 := hide (unhide Q2 w2 h2)
                clear h2 Q2
                go_wp2_with fail
                refine (unhide K2).mono ?_
                rintro e w3 ⟨rfl, h3⟩
                clear K2
                have K3 := hide (unhide Q3 w3 h3)
                clear h3 Q3
                go_wp2_with fail
                refine (unhide K3).mono ?_
                rintro e w4 ⟨rfl, h4⟩
                clear K3
                have cE : w4.cell? ⟨kb, 8, none⟩ = some (.bool k3.en) := by
                  obtain ⟨_, _, _, hK, _, _⟩ := h4
                  exact hK.cell 8 rfl
                have H4 := hide h4
                clear h4
                cases oa with
                | false =>
                  have HR : Hid (flowsL c 5000 k = (false, k3)) := hide (by have := unhide HE2; simpa using this.symm)
                  clear HE2 HE
                  go_wp2
                  go_ret
                  rw [unhide HR]
                  exact ⟨rfl, unhide H4⟩
                | true =>
                  cases ob with
                  | false =>
                    have HR : Hid (flowsL c 5000 k = (false, k3)) := hide (by have := unhide HE2; simpa using this.symm)
                    clear HE2 HE
                    go_wp2
                    go_ret
                    rw [unhide HR]
                    exact ⟨rfl, unhide H4⟩
                  | true =>
                    cases hen : k3.en with
                    | true =>
                      rw [hen] at cE
                      have HR : Hid (flowsL c 5000 k = (true, k3)) := hide (by have := unhide HE2; rw [hen] at this; simpa using this.symm)
                      clear HE2 HE hen
                      go_wp2
                      go_ret
                      rw [unhide HR]
                      exact ⟨rfl, unhide H4⟩
                    | false =>
                      rw [hen] at cE
                      have HR : Hid (FlowIn B w0 kb b c (flowsL c 5000 k) m (r + 4 * n) (0 + 1) w4) := hide ⟨k3, unhide H4, (unhide HE k3 rfl).1, (unhide HE k3 rfl).2, by have := unhide HE2; rw [hen] at this; simpa using this⟩
                      clear HE2 HE hen H4
                      go_wp2
                      go_roundg (gk - 1)
                      case measure => omega
                      case rel => exact ⟨0 + 1, by omega, by go_num, unhide HR⟩
              · have q1' := unhide Q1
                clear Q1
                have q2' := unhide Q2
                clear Q2
                rw [show ((1 - 1 : Nat) : Int) = 0 from rfl] at q2'
                rw [show ((1 : Nat) : Int) = 1 from rfl] at q1'
                have Q1 := hide q1'
                have Q2 := hide q2'
                clear q1' q2'
                rw [show ((1 : Nat) : Int) = 1 from rfl]
                go_wp2_with fail
                refine (unhide Q1).mono ?_
                rintro e w2 ⟨rfl, h2⟩
                clear Q1
                have K2 := hide (unhide Q2 w2 h2)
                clear h2 Q2
                go_wp2_with fail
                refine (unhide K2).mono ?_
                rintro e w3 ⟨rfl, h3⟩
                clear K2
                have K3 := hide (unhide Q3 w3 h3)
                clear h3 Q3
                go_wp2_with fail
                refine (unhide K3).mono ?_
                rintro e w4 ⟨rfl, h4⟩
                clear K3
                have cE : w4.cell? ⟨kb, 8, none⟩ = some (.bool k3.en) := by
                  obtain ⟨_, _, _, hK, _, _⟩ := h4
                  exact hK.cell 8 rfl
                have H4 := hide h4
                clear h4
                cases oa with
                | false =>
                  have HR : Hid (flowsL c 5000 k = (false, k3)) := hide (by have := unhide HE2; simpa using this.symm)
                  clear HE2 HE
                  go_wp2
                  go_ret
                  rw [unhide HR]
                  exact ⟨rfl, unhide H4⟩
                | true =>
                  cases ob with
                  | false =>
                    have HR : Hid (flowsL c 5000 k = (false, k3)) := hide (by have := unhide HE2; simpa using this.symm)
                    clear HE2 HE
                    go_wp2
                    go_ret
                    rw [unhide HR]
                    exact ⟨rfl, unhide H4⟩
                  | true =>
                    cases hen : k3.en with
                    | true =>
                      rw [hen] at cE
                      have HR : Hid (flowsL c 5000 k = (true, k3)) := hide (by have := unhide HE2; rw [hen] at this; simpa using this.symm)
                      clear HE2 HE hen
                      go_wp2
                      go_ret
                      rw [unhide HR]
                      exact ⟨rfl, unhide H4⟩
                    | false =>
                      rw [hen] at cE
                      have HR : Hid (FlowIn B w0 kb b c (flowsL c 5000 k) m (r + 4 * n) (1 + 1) w4) := hide ⟨k3, unhide H4, (unhide HE k3 rfl).1, (unhide HE k3 rfl).2, by have := unhide HE2; rw [hen] at this; simpa using this⟩
                      clear HE2 HE hen H4
                      go_wp2
                      go_roundg (gk - 1)
                      case measure => omega
                      case rel => exact ⟨1 + 1, by omega, by go_num, unhide HR⟩
            · have hj2 : ¬ (j : Int) < 2 := by omega
              have ej : j = 2 := by omega
              have HR : Hid (FlowInv B w0 kb b c k r (n + 1) wr) := hide (by
                subst ej
                refine ⟨k2, h2, ?_, s2, ?_⟩
                · rw [show r + 4 * (n + 1) = r + 4 * n + 2 * 2 by omega]
                  exact f2
                · rw [show 5000 - (n + 1) = m by omega]
                  exact e2)
              clear h2 f2 s2 e2
              go_wp2
              go_roundg (4999 - n)
              case measure => omega
              case rel => exact ⟨n + 1, by omega, by go_num, unhide HR⟩
    · have hni : ¬ (n : Int) < 5000 := by omega
      have e2 : 5000 - n = 0 := by omega
      rw [e2] at e1
      have HR : Hid (flowsL c 5000 k = (false, k1)) := hide e1.symm
      have H1 := hide h1
      clear e1 e2 f1 s1 h1
      go_wp2
      go_ret
      rw [unhide HR]
      exact ⟨rfl, unhide H1⟩
end Go.Proofs.YtkalonhalhdlaaaDoor
