/-
  What one call of plays does, if played does what it should.
-/
import Derived.Test.YtkalonhalhdlaaaGreatDoorRFirst2
import Derived.Test.YtkalonhalhdlaaaGreatDoorROpen
namespace Go.Proofs.YtkalonhalhdlaaaGreatDoor
open Go.RowKit

/-- A script in memory. -/
structure Script (w : World) (a : Option Addr) (len cap : Nat) (os : List OpV) : Prop where
  hlen : os.length = len
  small : len ≤ 1048576
  nil : a = none → len = 0 ∧ cap = 0
  cells : ∀ ad, a = some ad → ∀ j v, (opsCells os)[j]? = some v → w.cell? (ad.add j) = some v
  one : ∀ o ∈ os, o.lv.oneCell' = true

theorem opCells_one (o : OpV) (h : o.lv.oneCell' = true) : ∀ u ∈ opCells o, u.oneCell' = true := by
  intro u hu
  simp only [opCells, List.mem_cons, List.not_mem_nil, or_false] at hu
  rcases hu with rfl | rfl | rfl | rfl | rfl | rfl | rfl | rfl | rfl | rfl | rfl | rfl | rfl | rfl | rfl | rfl | rfl | rfl
  all_goals first | rfl | exact h
theorem opsCells_one {os : List OpV} (h : ∀ o ∈ os, o.lv.oneCell' = true) : ∀ u ∈ opsCells os, u.oneCell' = true := by
  intro u hu
  obtain ⟨l, hl, hu⟩ := List.mem_flatten.1 hu
  obtain ⟨o, ho, rfl⟩ := List.mem_map.1 hl
  exact opCells_one o (h o ho) u hu
theorem opsCells_append (os ps : List OpV) : opsCells (os ++ ps) = opsCells os ++ opsCells ps := by
  unfold opsCells
  rw [List.map_append, List.flatten_append]
theorem firstOps_len (g2 g3 g4 : Nat) : (firstOps g2 g3 g4).length = 21 := rfl
/-- The row that plays hands on. -/
theorem ops_of_row {V : World} {base n : Nat} {v : Value} {os : List OpV} (h : V.ownsRow base 34 18 v n (opsCells os)) (hn : 0 < n) : ∃ g cap, v = .slice (some ⟨g, 0, none⟩) n cap ∧ base ≤ g ∧ g < V.heap.size ∧ OpsAt V g os := by
  rcases h.2 with ⟨_, e⟩ | ⟨g, cap, cur, e1, e2, e3, _, _, _, e7⟩
  · omega
  · refine ⟨g, cap, e1, e2, (Array.getElem?_eq_some_iff.1 e3).1, fun j v hj => ?_⟩
    rw [Lib.cell_of_heap e3]
    rw [← e7] at hj
    have hjn : j < n * 18 := by
      have := (List.getElem?_eq_some_iff.1 hj).1
      rw [List.length_take] at this
      omega
    rw [List.getElem?_take_of_lt hjn, Array.getElem?_toList] at hj
    exact hj

set_option maxHeartbeats 4000000 in
set_option maxRecDepth 100000 in
theorem plays_any {lo hi : Int} {a : Option Addr} {len cap : Nat} {os : List OpV} {w : World} (hs : Script w a len cap os)
    (hp : ∀ V g cap', Below w.heap.size w V → w.heap.size ≤ g → g < V.heap.size → V.heap[w.heap.size + 1 + 1 + 1 + 1]? = some (.cells #[.int .u8 97] 5 (1, 2)) → V.heap[w.heap.size + 1 + 1]? = some (.cells #[.string ⟨#[3, 63]⟩] 9 (0, 0)) → V.heap[w.heap.size + 1 + 1 + 1]? = some (.cells #[.string ⟨#[3, 63]⟩, .string ⟨#[104, 101, 108, 108, 111]⟩] 9 (0, 0)) → OpsAt V g (firstOps (w.heap.size + 1 + 1) (w.heap.size + 1 + 1 + 1) (w.heap.size + 1 + 1 + 1 + 1) ++ os) →
      Calls Tryz.prog 11 #[.slice (some ⟨g, 0, none⟩) (21 + len) cap', .int .i64 lo, .int .i64 hi] V fun e w' => e = .returned (.bool true) ∧ Below w.heap.size V w') :
    Calls Tryz.prog 8 #[.slice a len cap, .int .i64 lo, .int .i64 hi] w fun e w' => e = .returned (.bool true) ∧ Below w.heap.size w w' := by
  have k1 := first_any w
  have HP := hide hp
  have HS := hide hs
  clear hp
  go_enter Tryz.func8, Tryz.ntmps8
  go_wp2_with fail
  refine k1.mono ?_
  rintro e w1 ⟨rfl, hrow, h4, h2, h3, hb1⟩
  clear k1
  have hz1 := hb1.size
  have hl5 : w.heap.size + 1 + 1 + 1 + 1 + 1 < w1.heap.size := (Array.getElem?_eq_some_iff.1 hrow).1
  have hown : w1.ownsRow w.heap.size 34 18 (.slice (some ⟨w.heap.size + 1 + 1 + 1 + 1 + 1, 0, none⟩) 21 21) 21 (opsCells (firstOps (w.heap.size + 1 + 1) (w.heap.size + 1 + 1 + 1) (w.heap.size + 1 + 1 + 1 + 1))) :=
    ⟨by rw [opsCells_len, firstOps_len], .inr ⟨_, 21, _, rfl, by omega, hrow, Nat.le_refl _, by unfold maxLen; omega, by rw [List.size_toArray, opsCells_len, firstOps_len], by rw [List.take_of_length_le (by rw [opsCells_len, firstOps_len]; omega)]⟩⟩
  have hob : (Value.slice (some ⟨w.heap.size + 1 + 1 + 1 + 1 + 1, 0, none⟩) 21 21).ownBlock = some (w.heap.size + 1 + 1 + 1 + 1 + 1) := rfl
  generalize hv1 : Value.slice (some ⟨w.heap.size + 1 + 1 + 1 + 1 + 1, 0, none⟩) 21 21 = v1 at *
  obtain ⟨i0, hi0, hy0, hy1, hy2⟩ := info_parts infoOp
  have hsm := hs.small
  cases a with
  | none =>
    obtain ⟨e1, e2⟩ := hs.nil rfl
    subst e1 e2
    have eo : os = [] := List.length_eq_zero_iff.1 hs.hlen
    subst eo
    have hat : OpsAt w1 (w.heap.size + 1 + 1 + 1 + 1 + 1) (firstOps (w.heap.size + 1 + 1) (w.heap.size + 1 + 1 + 1) (w.heap.size + 1 + 1 + 1 + 1) ++ []) := by
      rw [List.append_nil]
      intro j v hj
      rw [Lib.cell_of_heap hrow, List.getElem?_toArray]
      exact hj
    have KP := hide (unhide HP w1 _ 21 hb1 (by omega) hl5 h4 h2 h3 hat)
    have HB1 := hide hb1
    clear HP HS hs hown hob h4 h2 h3 hrow hat
    subst hv1
    go_wp2_with (at_builtin; refine wpList_append_nil _ rfl _ _ 22 rfl 34 i0 Tryz.underlying22 hi0 (w.heap.size + 1 + 1 + 1 + 1 + 1) 21 21 0 rfl (Nat.le_refl _) rfl ?_)
    go_wp2_with fail
    refine (unhide KP).mono ?_
    rintro e w2 ⟨rfl, hb2⟩
    have HE := hide ((unhide HB1).trans hb2)
    clear KP hb2
    go_wp2
    go_ret
    exact ⟨rfl, unhide HE⟩
  | some ad =>
    have HOWN := hide hown
    have HOB := hide hob
    have H4 := hide h4
    have H2 := hide h2
    have H3 := hide h3
    have HV1 := hide hv1
    clear hown hob h4 h2 h3 hrow hv1 hl5
    go_wp2_with (at_builtin; refine wpList_append_own _ rfl _ _ 22 rfl w.heap.size 34 i0 _ 18 184 Tryz.underlying22 hi0 hy0 hy1 hy2 rfl (by decide) _ _ _ rfl (unhide HOWN) ad len cap (opsCells os) rfl ?y0 ?y1 ?y2 ?y3 ?y4 ?y5 ?_)
    try case y0 => rw [opsCells_len, (unhide HS).hlen]
    try case y1 =>
      intro j u hj
      have hc := (unhide HS).cells ad rfl j u hj
      rw [hb1.cell (p := ad.add j) (World.block_lt_of_cell? w _ hc)]
      exact hc
    try case y2 => exact opsCells_one (unhide HS).one
    try case y3 => unfold maxLen; omega
    try case y4 => omega
    try case y5 => omega
    intro v5 V5 hown5 hg5 hnn
    clear hnn
    rw [← opsCells_append] at hown5
    obtain ⟨g5, cap5, rfl, hg1, hg2, hat⟩ := ops_of_row hown5 (by omega)
    have hb5 : Below w.heap.size w V5 := hb1.grown hg5 hz1 (fun k hk => by rw [unhide HOB] at hk; simp at hk; omega)
    have h45 : V5.heap[w.heap.size + 1 + 1 + 1 + 1]? = some (.cells #[.int .u8 97] 5 (1, 2)) := by
      have hl4 := (Array.getElem?_eq_some_iff.1 (unhide H4)).1
      rw [(Keeps.grown hg5).block _ hl4 (fun e => by rw [unhide HOB] at e; simp at e)]
      exact unhide H4
    have h25 : V5.heap[w.heap.size + 1 + 1]? = some (.cells #[.string ⟨#[3, 63]⟩] 9 (0, 0)) := by
      have hl4 := (Array.getElem?_eq_some_iff.1 (unhide H2)).1
      rw [(Keeps.grown hg5).block _ hl4 (fun e => by rw [unhide HOB] at e; simp at e)]
      exact unhide H2
    have h35 : V5.heap[w.heap.size + 1 + 1 + 1]? = some (.cells #[.string ⟨#[3, 63]⟩, .string ⟨#[104, 101, 108, 108, 111]⟩] 9 (0, 0)) := by
      have hl4 := (Array.getElem?_eq_some_iff.1 (unhide H3)).1
      rw [(Keeps.grown hg5).block _ hl4 (fun e => by rw [unhide HOB] at e; simp at e)]
      exact unhide H3
    have KP := hide (unhide HP V5 g5 cap5 hb5 hg1 hg2 h45 h25 h35 hat)
    have HB5 := hide hb5
    clear HP HS hs hown5 hg5 hat h45 h25 h35 hb5 HOWN HOB H4 H2 H3 HV1 hb1 hi0 hy0 hy1 hy2
    go_wp2_with fail
    refine (unhide KP).mono ?_
    rintro e w2 ⟨rfl, hb2⟩
    have HE := hide ((unhide HB5).trans hb2)
    clear KP hb2
    go_wp2
    go_ret
    exact ⟨rfl, unhide HE⟩
end Go.Proofs.YtkalonhalhdlaaaGreatDoor
