/-
  What one call of slices.Grow (onto nil) and of slices.Concat does: the bytes of all parts, one behind the other, in new memory.
-/
import Derived.Test.YtkalonhalhdlaaaGreatDoorVRows
import Derived.Lib.AppendZerosOnto
import Derived.WalkSmall
namespace Go.Proofs.YtkalonhalhdlaaaGreatDoor
open Go.RowKit

theorem Seg.nil (w : World) (b off : Nat) : Seg w b off [] := fun i hi => by simp at hi

set_option maxHeartbeats 1000000 in
set_option maxRecDepth 100000 in
theorem grow_nil (n : Nat) (h0 : 0 < n) (hn : n ≤ 1048576) (w : World) :
    Calls Tryz.prog 114 #[.slice none 0 0, .int .i64 n] w fun e w' => ∃ v, e = .returned v ∧ w'.ownsRow w.heap.size 5 1 v 0 [] ∧ (∃ g c, v = .slice (some ⟨g, 0, none⟩) 0 c ∧ w.heap.size ≤ g) ∧ Below w.heap.size w w' := by
  obtain ⟨i0, hi, hz0, hz1, hz2⟩ := info_parts infoByte
  have hold : (Builtin.firstCells i0.size 0 (.slice none 0 0)).run Tryz.prog w.drew = .ok ([] : List Value).toArray w.drew := run_firstCells_none w.drew i0.size 0 0 0
  have hrz : ∀ ty, (Builtin.append_ #[28, 3] ty #[.slice none 0 0, .int .i64 n]).run Tryz.prog w =
      .ok (.slice (some ⟨w.heap.size, 0, none⟩) n (grownCap w n 0 5)) (w.drew.alloc (.cells (([] : List Value).toArray ++ Builtin.zeroCells (Value.int .u8 0).cells n ++ Builtin.zeroCells (Value.int .u8 0).cells (grownCap w n 0 5 - n)) 5)) := fun ty => by
    have h := Lib.run_append_grow_zeros w 28 3 ty 5 i0 (.int .u8 0) .i64 .i64 Tryz.underlying28 Tryz.underlying3 hi hz0 none 0 0 [] hold n h0 (by omega) (by omega) (by omega) (by rw [hz2]; omega)
      (by rw [Nat.zero_add]; exact growslice_fits (by omega) (by rw [hz2]; omega))
    rw [Nat.zero_add] at h
    exact h
  have hGn : n ≤ grownCap w n 0 5 := grownCap_ge w _ _ _
  have hG63 := grownCap_le_maxLen w n 0 5 (by unfold maxLen; omega)
  generalize grownCap w n 0 5 = G at hrz hGn hG63
  have hin : (0 : Int) < (n : Int) := by omega
  have hng : ¬ ((n : Int) < 0) := by omega
  clear hold
  go_enter Tryz.func114, Tryz.ntmps114
  go_wp2_with (at_builtin; refine Lib.wpList_append_run _ rfl _ _ _ _ rfl _ _ rfl rfl _ _ (hrz _) ?_)
  go_wp2
  go_ret
  refine ⟨_, rfl, ⟨rfl, .inr ⟨w.heap.size, G, _, rfl, Nat.le_refl _, Array.getElem?_push_size, Nat.zero_le _, hG63, ?_, ?_⟩⟩, ⟨w.heap.size, ⟨G, rfl⟩, Nat.le_refl _⟩, ?_⟩
  · simp [size_zeroCells]; omega
  · simp
  · exact (below_drewN (Below.refl _ w) 1).alloc (Nat.le_refl _) _

/-- Where a part's bytes come from: nowhere, or memory that was there. -/
def SrcIs (w : World) (p : Option Addr) (l : List UInt8) : Prop := (p = none ∧ l = []) ∨ ∃ b off, p = some ⟨b, off, none⟩ ∧ b < w.heap.size ∧ Seg w b off l

theorem SrcIs.below {w w' : World} {p : Option Addr} {l : List UInt8} (h : SrcIs w p l) {B : Nat} (hb : Below B w w') (hB : w.heap.size ≤ B) : SrcIs w' p l := by
  rcases h with h | ⟨b, off, h1, h2, h3⟩
  · exact .inl h
  · exact .inr ⟨b, off, h1, Nat.lt_of_lt_of_le h2 hb.size, h3.below hb (by omega)⟩

/-- A list of parts in memory: each an address, a capacity and its bytes. -/
def PartsAt (w : World) (fb : Nat) (vs : List (Option Addr × Nat × List UInt8)) : Prop :=
  ∀ i (hi : i < vs.length), w.cell? ⟨fb, i, none⟩ = some (.slice vs[i].1 vs[i].2.2.length vs[i].2.1) ∧ SrcIs w vs[i].1 vs[i].2.2

theorem PartsAt.below {w w' : World} {fb : Nat} {vs : List (Option Addr × Nat × List UInt8)} (h : PartsAt w fb vs) {B : Nat} (hb : Below B w w') (hB : w.heap.size ≤ B) (hf : fb < B) : PartsAt w' fb vs := by
  intro i hi
  obtain ⟨h1, h2⟩ := h i hi
  exact ⟨by rw [hb.cell (p := ⟨fb, i, none⟩) hf]; exact h1, h2.below hb hB⟩

def catL (vs : List (Option Addr × Nat × List UInt8)) : List UInt8 := (vs.map (·.2.2)).flatten
theorem catL_take (vs : List (Option Addr × Nat × List UInt8)) (k : Nat) (hk : k < vs.length) : catL (vs.take (k + 1)) = catL (vs.take k) ++ vs[k].2.2 := by
  unfold catL
  rw [List.take_succ_eq_append_getElem hk, List.map_append, List.flatten_append]
  simp only [List.map_cons, List.map_nil, List.flatten_cons, List.flatten_nil, List.append_nil]
theorem catL_take_le (vs : List (Option Addr × Nat × List UInt8)) (k : Nat) : (catL (vs.take k)).length ≤ (catL vs).length := by
  have : catL vs = catL (vs.take k) ++ catL (vs.drop k) := by
    unfold catL
    rw [← List.flatten_append, ← List.map_append, List.take_append_drop]
  rw [this, List.length_append]
  omega

set_option maxHeartbeats 2000000 in
set_option maxRecDepth 100000 in
theorem concat_any (fb cap : Nat) (vs : List (Option Addr × Nat × List UInt8)) (w : World) (hP : PartsAt w fb vs) (hfb : fb < w.heap.size) (hv : vs.length ≤ 1048576) (h0 : 0 < (catL vs).length) (hn : (catL vs).length ≤ 1048576) :
    Calls Tryz.prog 76 #[.slice (some ⟨fb, 0, none⟩) vs.length cap] w fun e w' => ∃ v, e = .returned v ∧ w'.ownsRow w.heap.size 5 1 v (catL vs).length (Lib.byteCells (catL vs)) ∧ Below w.heap.size w w' := by
  obtain ⟨i0, hi, hz0, hz1, hz2⟩ := info_parts infoByte
  go_enter Tryz.func76, Tryz.ntmps76
  go_wp2
  go_loop [3, 11] (fun s i => ∃ k, k ≤ vs.length ∧ i = .int .i64 (k : Nat) ∧ s = .int .i64 ((catL (vs.take k)).length : Nat)) (fun _ i => vs.length - (intOf i).toNat)
  case atStart => exact ⟨0, Nat.zero_le _, rfl, rfl⟩
  case round =>
    obtain ⟨k, hk, rfl, rfl⟩ := hrel
    by_cases hlt : k < vs.length
    · obtain ⟨hcell, _⟩ := hP k hlt
      have hle := catL_take_le vs (k + 1)
      have hc := congrArg List.length (catL_take vs k hlt)
      rw [List.length_append] at hc
      generalize vs[k].1 = p at hcell
      generalize vs[k].2.1 = c at hcell
      generalize vs[k].2.2.length = x at hcell hc
      generalize (catL (vs.take k)).length = y at hc
      have HC := hide hc
      have hb1 : y + x ≤ 1048576 := by omega
      clear hc hle
      have hng : ¬ ((y : Int) + (x : Int) < 0) := by omega
      go_wp2
      go_round
      case rel => exact ⟨k + 1, by omega, by go_num, by rw [HC.out]; go_num⟩
      case measure => simp [intOf]; omega
    · obtain rfl : k = vs.length := by omega
      rw [List.take_length]
      have hgr := grow_nil (catL vs).length h0 hn w
      have HG := hide hgr
      clear hgr
      go_wp2_with fail
      refine (unhide HG).mono ?_
      rintro e w1 ⟨v1, rfl, hown1, ⟨g1, c1, rfl, hg1⟩, hb1⟩
      clear HG
      have HO := hide hown1
      have HB := hide hb1
      clear hown1 hb1
      go_wp2
      go_loopw [6, 27] (fun s i wr => ∃ k, k ≤ vs.length ∧ i = .int .i64 (k : Nat) ∧ wr.ownsRow w.heap.size 5 1 s (catL (vs.take k)).length (Lib.byteCells (catL (vs.take k))) ∧ (∃ g n c, s = .slice (some ⟨g, 0, none⟩) n c) ∧ Below w.heap.size w wr) (fun _ i _ => vs.length - (intOf i).toNat)
      case atStart => exact ⟨0, Nat.zero_le _, rfl, unhide HO, ⟨_, _, _, rfl⟩, unhide HB⟩
      case round =>
        clear HO HB
        obtain ⟨k, hk, rfl, hown, ⟨g, n, c, rfl⟩, hbw⟩ := hrel
        have hbz := hbw.size
        by_cases hlt2 : k < vs.length
        · obtain ⟨hcell, hsrc⟩ := hP.below hbw (Nat.le_refl _) hfb k hlt2
          have hle := catL_take_le vs (k + 1)
          have hc := catL_take vs k hlt2
          have HN : Hid (n = (catL (vs.take k)).length) := by
            show n = _
            rcases hown.2 with ⟨h, _⟩ | ⟨_, _, _, h, _⟩
            · cases h
            · simp only [Value.slice.injEq] at h; exact h.2.1
          rw [hc, List.length_append] at hle
          generalize vs[k].1 = p at hcell hsrc
          generalize vs[k].2.1 = cp at hcell
          generalize vs[k].2.2 = l at hcell hsrc hc hle
          have HC := hide hc
          clear hc
          generalize catL (vs.take k) = done at hown HN HC hle
          have HO := hide hown
          clear hown
          rcases hsrc with ⟨rfl, rfl⟩ | ⟨b, off, rfl, hb, hseg⟩
          · have hnc : n ≤ c := by
              rcases (unhide HO).2 with ⟨h, _⟩ | ⟨_, _, _, h, _, _, h2, _⟩
              · cases h
              · simp only [Value.slice.injEq] at h; omega
            go_wp2_with (at_builtin; refine wpList_append_nil _ rfl _ _ 28 rfl 5 i0 Tryz.underlying28 hi g n c cp rfl hnc rfl ?_)
            go_wp2
            go_roundw
            case rel => exact ⟨k + 1, by omega, by go_num, by rw [HC.out, List.append_nil]; exact unhide HO, ⟨_, _, _, rfl⟩, hbw⟩
            case measure => simp [intOf]; omega
          · go_wp2_with (at_builtin; refine wpList_append_own _ rfl _ _ 28 rfl w.heap.size 5 i0 _ 1 1 Tryz.underlying28 hi hz0 hz1 hz2 rfl (by decide) _ _ _ rfl (unhide HO) ⟨b, off, none⟩ l.length cp (Lib.byteCells l) rfl (by simp [Lib.byteCells]) ?ac1 ?ac2 ?ac3 ?ac4 ?ac5 ?_)
            case ac1 => exact hseg.news
            case ac2 => exact byteCells_one l
            case ac3 => unfold maxLen; omega
            case ac4 => omega
            case ac5 => exact hbz
            intro v1 w1 hown1 hg1 hnil
            have hge : w.heap.size ≤ g := ((unhide HO).lt g rfl).1
            have hb1 : Below w.heap.size w w1 := hbw.grown hg1 hbz (fun k hk => by simp [Value.ownBlock] at hk; omega)
            rw [← Lib.byteCells_append] at hown1
            have hsl : ∃ g n c, v1 = .slice (some ⟨g, 0, none⟩) n c := by
              rcases hown1.2 with ⟨h, _⟩ | ⟨g', c', _, h, _⟩
              · exact (hnil h).elim
              · exact ⟨g', _, c', h⟩
            have HO1 := hide hown1
            have HB1 := hide hb1
            clear hown1 hb1 hg1 hnil
            go_wp2
            go_roundw
            case rel => exact ⟨k + 1, by omega, by go_num, by rw [HC.out, List.length_append]; exact unhide HO1, hsl, unhide HB1⟩
            case measure => simp [intOf]; omega
        · obtain rfl : k = vs.length := by omega
          rw [List.take_length] at hown
          go_wp2
          go_ret
          exact ⟨_, rfl, hown, hbw⟩
end Go.Proofs.YtkalonhalhdlaaaGreatDoor
