import Derived.Test.YtkalonhalhdlaaaGreatDoorRFirst2
import Derived.Test.YtkalonhalhdlaaaGreatDoorG33
import Derived.Test.YtkalonhalhdlaaaGreatDoorWGo
import Derived.Deep.MidRow
/-
  What one call of plays does, if played does what it should.
-/
namespace Go.Proofs.YtkalonhalhdlaaaGreatDoor
open Go.RowKit
/-- A script in memory. -/
structure Script (w : World) (a : Option Addr) (len cap : Nat) (os : List OpV) : Prop where
  hlen : os.length = len
  small : len ≤ 1048576
  nil : a = none → len = 0 ∧ cap = 0
  cells : ∀ ad, a = some ad → ∀ j v, (opsCells os)[j]? = some v → w.cell? (ad.add j) = some v
  one : ∀ o ∈ os, o.lv.oneCell' = true
theorem opCells_one (o : OpV) (h : o.lv.oneCell' = true) : ∀ u ∈ opCells o, u.oneCell' = true := by
  intro u hu
  simp only [opCells, List.mem_cons, List.not_mem_nil, or_false] at hu
  rcases hu with rfl | rfl | rfl | rfl | rfl | rfl | rfl | rfl | rfl | rfl | rfl | rfl | rfl | rfl | rfl | rfl | rfl | rfl
  all_goals first | rfl | exact h
theorem opsCells_one {os : List OpV} (h : ∀ o ∈ os, o.lv.oneCell' = true) : ∀ u ∈ opsCells os, u.oneCell' = true := by
  intro u hu
  obtain ⟨l, hl, hu⟩ := List.mem_flatten.1 hu
  obtain ⟨o, ho, rfl⟩ := List.mem_map.1 hl
  exact opCells_one o (h o ho) u hu
theorem opsCells_append (os ps : List OpV) : opsCells (os ++ ps) = opsCells os ++ opsCells ps := by
  unfold opsCells
  rw [List.map_append, List.flatten_append]
theorem firstOps_len (g2 g3 g4 : Nat) : (firstOps g2 g3 g4).length = 21 := rfl
/-- The row that plays hands on. -/
theorem ops_of_row {V : World} {base n : Nat} {v : Value} {os : List OpV} (h : V.ownsRow base 34 18 v n (opsCells os)) (hn : 0 < n) : ∃ g cap, v = .slice (some ⟨g, 0, none⟩) n cap ∧ base ≤ g ∧ g < V.heap.size ∧ OpsAt V g os := by
  rcases h.2 with ⟨_, e⟩ | ⟨g, cap, cur, e1, e2, e3, _, _, _, e7⟩
  · omega
  · refine ⟨g, cap, e1, e2, (Array.getElem?_eq_some_iff.1 e3).1, fun j v hj => ?_⟩
    rw [Lib.cell_of_heap e3]
    rw [← e7] at hj
    have hjn : j < n * 18 := by
      have := (List.getElem?_eq_some_iff.1 hj).1
      rw [List.length_take] at this
      omega
    rw [List.getElem?_take_of_lt hjn, Array.getElem?_toList] at hj
    exact hj
end Go.Proofs.YtkalonhalhdlaaaGreatDoor

/-
  A script on stations, played.
-/
namespace Go.Proofs.YtkalonhalhdlaaaGreatDoor
open Go.RowKit
theorem first_station {w : World} {g2 g3 g4 : Nat} (h4 : w.heap[g4]? = some (.cells #[.int .u8 97] 5 (1, 2))) : ∀ o ∈ firstOps g2 g3 g4, OpS w o := by
  have hr : ∀ z : Int, -100 ≤ z → z ≤ 100 → -9223372036854775808 ≤ z ∧ z ≤ 9223372036854775807 := fun z h1 h2 => ⟨by omega, by omega⟩
  have hn : ∀ {k a b d : Int} {s : ByteArray} {lv : Value} {c0 c1 c2 c3 c4 c5 : Int}, (-100 ≤ a ∧ a ≤ 100) → (-100 ≤ b ∧ b ≤ 100) → (-100 ≤ d ∧ d ≤ 100) → (∃ lp ln lc, lv = .slice lp ln lc) → s.size ≤ 1048576 → OpS w ⟨k, a, b, d, s, lv, ⟨0, 0, false, 0, 0, []⟩, none, 0, c0, c1, c2, c3, c4, c5⟩ :=
    fun ha hb hd h1 h2 => ⟨hr _ ha.1 ha.2, hr _ hb.1 hb.2, hr _ hd.1 hd.2, h2, h1, .inl ⟨rfl, rfl⟩⟩
  intro o ho
  simp only [firstOps, List.mem_cons, List.not_mem_nil, or_false] at ho
  rcases ho with rfl | rfl | rfl | rfl | rfl | rfl | rfl | rfl | rfl | rfl | rfl | rfl | rfl | rfl | rfl | rfl | rfl | rfl | rfl | rfl | rfl
  case inr.inr.inr.inr.inl =>
    refine ⟨hr 8 (by decide) (by decide), hr 0 (by decide) (by decide), hr 0 (by decide) (by decide), by show (0 : Nat) ≤ _; omega, ⟨_, _, _, rfl⟩, .inr ⟨⟨g4, 0, none⟩, rfl, fun j u hj => ?_⟩⟩
    match j, hj with
    | 0, hj =>
      simp [Lib.byteCells] at hj
      subst hj
      have : (⟨g4, 0, none⟩ : Addr).add 0 = ⟨g4, 0, none⟩ := by simp [Addr.add]
      rw [this, Lib.cell_of_heap h4]
      rfl
    | j + 1, hj => simp [Lib.byteCells] at hj
  all_goals exact hn (by decide) (by decide) (by decide) ⟨_, _, _, rfl⟩ (by decide)
theorem OpIn.station {w : World} {N : Nat} {o : OpV} (h : OpIn w N o) (hN : N ≤ 1048576) : OpS w o := by
  obtain ⟨h1, h2, h3, h4, _⟩ := h.nums
  refine ⟨h2, h3, h4, Nat.le_trans h.s hN, ?_, h.src⟩
  rcases h.lv with e | ⟨a, len, cap, e, _⟩
  · exact ⟨_, _, _, e⟩
  · exact ⟨_, _, _, e⟩
theorem gw_zero {V : World} (hC : Ctl V) (h0 : 0 < V.heap.size) : GwAt V.heap.size (V.alloc (.cells wZero 45)) V.heap.size (fun _ => 0) (.slice none 0 0) ⟨.slice none 0 0, [], bkZero⟩ [] := by
  have hb := (Below.refl V.heap.size V).alloc (Nat.le_refl _) (.cells wZero 45)
  refine ⟨⟨⟨alloc1_a _ _, World.ownsRow_nil _ _ _ _, World.ownsRow_nil _ _ _ _, World.ownsRow_nil _ _ _ _, World.ownsRow_nil _ _ _ _, fun i v hv => by simp [bkZero] at hv, fun i v hv => by simp [bkZero] at hv, fun i v hv => by simp [bkZero] at hv, fun i v hv => by simp [bkZero] at hv, fun i hi => by simp [bkZero] at hi, rfl, rfl, rfl, rfl, fun v hv => by simp [bkZero] at hv⟩, World.ownsRow_nil _ _ _ _, fun e he => by simp at he, List.Pairwise.nil, Nat.le_refl _, fun k hk => (by cases hk), fun k hk => absurd hk (bkZero_blk k), fun e he => by simp at he⟩, World.ownsRow_nil _ _ _ _, fun n p hp => by simp at hp, fun n p hp => by simp at hp, fun p hp => by simp at hp, fun k hk => absurd rfl hk, fun k hk => (by cases hk), fun k hk => absurd rfl hk, rfl, fun _ _ => rfl, hC.below hb h0, h0, hb.size⟩
/-- Amid a script on stations. -/
def StJ (V : World) (L r : Nat) (W : World) : Prop := (∃ own ss x ps a b, GwAt V.heap.size W V.heap.size own ss x ps ∧ Fit a b 0 x ps ∧ a + b ≤ min r L) ∧ Below V.heap.size V W
theorem played_stations {V : World} {g cap' : Nat} {os : List OpV} (hsm : os.length ≤ 49990) (hC : Ctl V) (h0 : 0 < V.heap.size) (hg : g < V.heap.size) (hops : OpsAt V g os) (hok : ∀ o ∈ os, OpS V o) :
    Calls Tryz.prog 11 #[.slice (some ⟨g, 0, none⟩) os.length cap', .int .i64 20, .int .i64 33] V fun e w' => e = .returned (.bool true) ∧ Below V.heap.size V w' := by
  refine played_any (lo := 20) (hi := 33) (cap := cap') (B := V.heap.size) hg hops (by omega) (StJ V os.length) ?_ ?_ ?_ ?_ ?_
  · refine ⟨⟨_, _, _, _, 0, 0, gw_zero hC h0, ⟨fun p hp => by simp at hp, fun p hp => by simp at hp, Nat.zero_le _, Nat.zero_le _, Nat.zero_le _, ⟨Nat.zero_le _, Nat.zero_le _, Nat.zero_le _, Nat.zero_le _, Nat.zero_le _, fun e he => by simp at he⟩⟩, Nat.zero_le _⟩, (Below.refl _ V).alloc (Nat.le_refl _) _⟩
  · exact fun r W h => h.2
  · rintro r W ⟨⟨own, ss, x, ps, a, b, h1, h2, h3⟩, h4⟩
    exact ⟨⟨own, ss, x, ps, a, b, h1, h2, by omega⟩, h4⟩
  · rintro r W o ho hlo hhi ⟨⟨own, ss, x, ps, a, b, h1, h2, h3⟩, h4⟩
    have hr : r < os.length := (List.getElem?_eq_some_iff.1 ho).1
    refine (step_station h1 h2 (by omega) (by omega) o ((hok o (List.mem_of_getElem? ho)).below h4 (Nat.le_refl _)) ⟨hlo, hhi⟩).mono ?_
    rintro e w' ⟨rfl, own', ss', x', ps', q1, q2, q3, _, _⟩
    rcases q2 with q2 | q2
    · exact ⟨rfl, ⟨own', ss', x', ps', a + 1, b, q1, q2, by omega⟩, h4.trans q3⟩
    · exact ⟨rfl, ⟨own', ss', x', ps', a, b + 1, q1, q2, by omega⟩, h4.trans q3⟩
  · rintro r W ⟨⟨own, ss, x, ps, a, b, h1, h2, h3⟩, h4⟩
    have hh := hand_le (a := a) (b := b) (by omega)
    refine (looks_lw h1.lw h2.sm (by omega)).mono ?_
    rintro e w' ⟨rfl, rfl⟩
    exact ⟨rfl, ⟨own, ss, x, ps, a, b, h1, h2, h3⟩, h4⟩
end Go.Proofs.YtkalonhalhdlaaaGreatDoor

/-
  What one call of Handshakes does: the steps without numbers, played.
-/
namespace Go.Proofs.YtkalonhalhdlaaaGreatDoor
open Go.RowKit
set_option maxHeartbeats 4000000 in
set_option maxRecDepth 100000 in
theorem unnumbered_any (o : OpV) (hlv : ∃ lp ln lc, o.lv = .slice lp ln lc) (w : World) : Calls Tryz.prog 10 #[opV o] w fun e w' => (∃ t : Bool, e = .returned (.bool t)) ∧ Below w.heap.size w w' := by
  obtain ⟨lp, ln, lc, hlv⟩ := hlv
  obtain ⟨kind, a, b, d, s, lv, ⟨fa, fk, fp, fns, fnr, info⟩, fq, fc, x0, x1, x2, x3, x4, x5⟩ := o
  simp only at hlv
  subst hlv
  obtain ⟨W0, hW0⟩ : ∃ W0, w.alloc (.cells #[.int .i64 kind, .int .i64 a, .int .i64 b, .int .i64 d, .string s, .slice lp ln lc, .int .i64 fa, .int .i64 fk, .bool fp, .int .i64 fns, .int .i64 fnr, .slice fq info.length fc, .int .i64 x0, .int .i64 x1, .int .i64 x2, .int .i64 x3, .int .i64 x4, .int .i64 x5] 34) = W0 := ⟨_, rfl⟩
  have hb0 : Below w.heap.size w W0 := by rw [← hW0]; exact (Below.refl _ w).alloc (Nat.le_refl _) _
  have hox : W0.heap[w.heap.size]? = some (.cells #[.int .i64 kind, .int .i64 a, .int .i64 b, .int .i64 d, .string s, .slice lp ln lc, .int .i64 fa, .int .i64 fk, .bool fp, .int .i64 fns, .int .i64 fnr, .slice fq info.length fc, .int .i64 x0, .int .i64 x1, .int .i64 x2, .int .i64 x3, .int .i64 x4, .int .i64 x5] 34) := by rw [← hW0]; exact alloc1_a w _
  have o0 : W0.cell? ⟨w.heap.size, 0, none⟩ = some (.int .i64 kind) := by rw [Lib.cell_of_heap hox]; rfl
  have o7 : W0.cell? ⟨w.heap.size, 7, none⟩ = some (.int .i64 fk) := by rw [Lib.cell_of_heap hox]; rfl
  have HB := hide hb0
  clear hb0 hox
  unfold opV
  simp only
  go_enter Tryz.func10, Tryz.ntmps10
  generalize hnB : w.heap.size = nB at *
  by_cases h27 : kind = 27
  · subst h27
    go_wp2
    all_goals go_ret
    all_goals exact ⟨⟨_, rfl⟩, unhide HB⟩
  have q27 : (kind == 27) = false := beq_false_of_ne h27
  by_cases h23 : kind = 23
  · subst h23
    go_wp2
    all_goals go_ret
    all_goals exact ⟨⟨_, rfl⟩, unhide HB⟩
  have q23 : (kind == 23) = false := beq_false_of_ne h23
  by_cases h24 : kind = 24
  · subst h24
    go_wp2
    all_goals go_ret
    all_goals exact ⟨⟨_, rfl⟩, unhide HB⟩
  have q24 : (kind == 24) = false := beq_false_of_ne h24
  by_cases h25 : kind = 25
  · subst h25
    go_wp2
    all_goals go_ret
    all_goals exact ⟨⟨_, rfl⟩, unhide HB⟩
  have q25 : (kind == 25) = false := beq_false_of_ne h25
  by_cases h26 : kind = 26
  · subst h26
    go_wp2
    all_goals go_ret
    all_goals exact ⟨⟨_, rfl⟩, unhide HB⟩
  have q26 : (kind == 26) = false := beq_false_of_ne h26
  go_wp2
  all_goals go_ret
  all_goals exact ⟨⟨_, rfl⟩, unhide HB⟩
set_option maxHeartbeats 4000000 in
set_option maxRecDepth 100000 in
theorem played_nil (lo hi : Int) (w : World) : Calls Tryz.prog 11 #[.slice none 0 0, .int .i64 lo, .int .i64 hi] w fun e w' => e = .returned (.bool true) ∧ Below w.heap.size w w' := by
  have HB := hide (fun x : Obj => (Below.refl w.heap.size w).alloc (Nat.le_refl _) x)
  go_enter Tryz.func11, Tryz.ntmps11
  go_wp2
  go_loopg [8] 0 (fun _ i wr => i = .int .i64 0 ∧ Below w.heap.size w wr)
  case atStart => exact ⟨rfl, unhide HB _⟩
  case round =>
    obtain ⟨rfl, hb⟩ := hrel
    have HE := hide hb
    clear hb
    go_wp2
    go_ret
    exact ⟨rfl, unhide HE⟩
/-- A row of steps: none, or at a block of its own. -/
theorem row_cases {V : World} {base n : Nat} {v : Value} {os : List OpV} (h : V.ownsRow base 34 18 v n (opsCells os)) : (v = .slice none 0 0 ∧ n = 0) ∨ ∃ g cap, v = .slice (some ⟨g, 0, none⟩) n cap ∧ base ≤ g ∧ g < V.heap.size ∧ OpsAt V g os := by
  rcases h.2 with ⟨e0, e⟩ | ⟨g, cap, cur, e1, e2, e3, _, _, _, e7⟩
  · exact .inl ⟨e0, e⟩
  · refine .inr ⟨g, cap, e1, e2, (Array.getElem?_eq_some_iff.1 e3).1, fun j v hj => ?_⟩
    rw [Lib.cell_of_heap e3]
    rw [← e7] at hj
    have hjn : j < n * 18 := by
      have := (List.getElem?_eq_some_iff.1 hj).1
      rw [List.length_take] at this
      omega
    rw [List.getElem?_take_of_lt hjn, Array.getElem?_toList] at hj
    exact hj
end Go.Proofs.YtkalonhalhdlaaaGreatDoor

/-
  What one call of Handshakes does.
-/
namespace Go.Proofs.YtkalonhalhdlaaaGreatDoor
open Go.RowKit
/-- Amid the filter: os2 has been taken so far. -/
structure Sieve (V : World) (all : List OpV) (r : Nat) (v : Value) (os2 : List OpV) (wr : World) : Prop where
  len : os2.length ≤ r
  sub : ∀ o ∈ os2, o ∈ all
  row : wr.ownsRow V.heap.size 34 18 v os2.length (opsCells os2)
  bel : Below V.heap.size V wr
theorem Sieve.later {V wr w' : World} {all os2 : List OpV} {r : Nat} {v : Value} (h : Sieve V all r v os2 wr) (hb : Below wr.heap.size wr w') : Sieve V all r v os2 w' :=
  ⟨h.len, h.sub, ownsRow_keepsB h.row (Keeps.of hb (X := fun _ => False)) (fun _ _ hx => hx), h.bel.trans (hb.mono h.bel.size)⟩
theorem Sieve.skip {V wr : World} {all os2 : List OpV} {r : Nat} {v : Value} (h : Sieve V all r v os2 wr) : Sieve V all (r + 1) v os2 wr := ⟨by have := h.len; omega, h.sub, h.row, h.bel⟩
theorem Sieve.take {V wr V5 : World} {all os2 : List OpV} {r : Nat} {v v5 : Value} (h : Sieve V all r v os2 wr) {o : OpV} (ho : o ∈ all) (hown : V5.ownsRow V.heap.size 34 18 v5 (os2.length + 1) (opsCells os2 ++ opCells o)) (hg : wr.grownBy V5 v.ownBlock) : Sieve V all (r + 1) v5 (os2 ++ [o]) V5 := by
  have e0 : opsCells [o] = opCells o := by simp [opsCells]
  have e : opsCells (os2 ++ [o]) = opsCells os2 ++ opCells o := by rw [opsCells_append, e0]
  refine ⟨by rw [List.length_append]; have := h.len; simp; omega, fun q hq => ?_, ?_, h.bel.grown hg h.bel.size (fun k hk => (World.ownsRow.lt h.row k hk).1)⟩
  · rcases List.mem_append.1 hq with hq | hq
    · exact h.sub q hq
    · simp at hq; exact hq ▸ ho
  · rw [e, List.length_append]; exact hown
set_option maxHeartbeats 8000000 in
set_option maxRecDepth 1000000 in
theorem handshakes_any {a : Option Addr} {len cap : Nat} {os : List OpV} {w : World} (hs : Script w a len cap os) (hl21 : 21 * len ≤ 1048576) (hok : ∀ o ∈ os, OpS w o) (hC : Ctl w) (hw : 0 < w.heap.size) :
    Calls Tryz.prog 5 #[.slice a len cap] w fun e w' => e = .returned (.bool true) ∧ Below w.heap.size w w' := by
  have k1 := first_any w
  have HS := hide hs
  have HOK := hide hok
  have HC := hide hC
  have hsm := hs.small
  obtain ⟨i0, hi0, hy0, hy1, hy2⟩ := info_parts infoOp
  clear hok hC
  go_enter Tryz.func5, Tryz.ntmps5
  go_wp2_with fail
  refine k1.mono ?_
  rintro e w1 ⟨rfl, hrow, h4, h2, h3, hb1⟩
  clear k1
  have hz1 := hb1.size
  have hl5 : w.heap.size + 1 + 1 + 1 + 1 + 1 < w1.heap.size := (Array.getElem?_eq_some_iff.1 hrow).1
  have hown : w1.ownsRow w.heap.size 34 18 (.slice (some ⟨w.heap.size + 1 + 1 + 1 + 1 + 1, 0, none⟩) 21 21) 21 (opsCells (firstOps (w.heap.size + 1 + 1) (w.heap.size + 1 + 1 + 1) (w.heap.size + 1 + 1 + 1 + 1))) :=
    ⟨by rw [opsCells_len, firstOps_len], .inr ⟨_, 21, _, rfl, by omega, hrow, Nat.le_refl _, by unfold maxLen; omega, by rw [List.size_toArray, opsCells_len, firstOps_len], by rw [List.take_of_length_le (by rw [opsCells_len, firstOps_len]; omega)]⟩⟩
  have hob : (Value.slice (some ⟨w.heap.size + 1 + 1 + 1 + 1 + 1, 0, none⟩) 21 21).ownBlock = some (w.heap.size + 1 + 1 + 1 + 1 + 1) := rfl
  generalize hv1 : Value.slice (some ⟨w.heap.size + 1 + 1 + 1 + 1 + 1, 0, none⟩) 21 21 = v1 at *
  go_upto_region 2 with fail
  go_cut [3] from 8 to 11 (fun z wx => ∃ g cap' V, z = .slice (some ⟨g, 0, none⟩) (21 + len) cap' ∧ wx = V ∧ Below w.heap.size w V ∧ w.heap.size ≤ g ∧ g < V.heap.size ∧ V.heap[w.heap.size + 1 + 1 + 1 + 1]? = some (.cells #[.int .u8 97] 5 (1, 2)) ∧ OpsAt V g (firstOps (w.heap.size + 1 + 1) (w.heap.size + 1 + 1 + 1) (w.heap.size + 1 + 1 + 1 + 1) ++ os))
  case first =>
    clear HOK HC
    cases a with
    | none =>
      obtain ⟨e1, e2⟩ := hs.nil rfl
      subst e1 e2
      have eo : os = [] := List.length_eq_zero_iff.1 hs.hlen
      subst eo
      have hat : OpsAt w1 (w.heap.size + 1 + 1 + 1 + 1 + 1) (firstOps (w.heap.size + 1 + 1) (w.heap.size + 1 + 1 + 1) (w.heap.size + 1 + 1 + 1 + 1) ++ []) := by
        rw [List.append_nil]
        intro j v hj
        rw [Lib.cell_of_heap hrow, List.getElem?_toArray]
        exact hj
      have HZ := hide (And.intro hb1 (And.intro hl5 (And.intro h4 hat)))
      clear HS hs hown hob h4 h2 h3 hrow hat
      subst hv1
      go_wp2_with (at_builtin; refine wpList_append_nil _ rfl _ _ 22 rfl 34 i0 Tryz.underlying22 hi0 (w.heap.size + 1 + 1 + 1 + 1 + 1) 21 21 0 rfl (Nat.le_refl _) rfl ?_)
      go_wp2
      go_meet
      obtain ⟨z1, z2, z3, z4⟩ := unhide HZ
      exact ⟨_, _, _, rfl, rfl, z1, by omega, z2, z3, z4⟩
    | some ad =>
      have HOWN := hide hown
      have HOB := hide hob
      have H4 := hide h4
      have HV1 := hide hv1
      clear hown hob h4 h2 h3 hrow hv1 hl5
      go_wp2_with (at_builtin; refine wpList_append_own _ rfl _ _ 22 rfl w.heap.size 34 i0 _ 18 184 Tryz.underlying22 hi0 hy0 hy1 hy2 rfl (by decide) _ _ _ rfl (unhide HOWN) ad len cap (opsCells os) rfl ?y0 ?y1 ?y2 ?y3 ?y4 ?y5 ?_)
      try case y0 => rw [opsCells_len, (unhide HS).hlen]
      try case y1 =>
        intro j u hj
        have hc := (unhide HS).cells ad rfl j u hj
        rw [hb1.cell (p := ad.add j) (World.block_lt_of_cell? w _ hc)]
        exact hc
      try case y2 => exact opsCells_one (unhide HS).one
      try case y3 => unfold maxLen; omega
      try case y4 => omega
      try case y5 => omega
      intro v5 V5 hown5 hg5 hnn
      clear hnn
      rw [← opsCells_append] at hown5
      obtain ⟨g5, cap5, rfl, hg1, hg2, hat⟩ := ops_of_row hown5 (by omega)
      have hb5 : Below w.heap.size w V5 := hb1.grown hg5 hz1 (fun k hk => by rw [unhide HOB] at hk; simp at hk; omega)
      have h45 : V5.heap[w.heap.size + 1 + 1 + 1 + 1]? = some (.cells #[.int .u8 97] 5 (1, 2)) := by
        have hl4 := (Array.getElem?_eq_some_iff.1 (unhide H4)).1
        rw [(Keeps.grown hg5).block _ hl4 (fun e => by rw [unhide HOB] at e; simp at e)]
        exact unhide H4
      have HZ := hide (And.intro hb5 (And.intro hg1 (And.intro hg2 (And.intro h45 hat))))
      clear HS hs hown5 hg5 hat h45 hb5 HOWN HOB H4 HV1 hb1 hi0 hy0 hy1 hy2 hg1 hg2
      go_wp2
      go_meet
      obtain ⟨z1, z2, z3, z4, z5⟩ := unhide HZ
      exact ⟨_, _, _, rfl, rfl, z1, z2, z3, z4, z5⟩
  case rest =>
  clear hown hob hv1 hrow h4 h2 h3 hb1 hl5 hz1
  obtain ⟨g, cap', V, rfl, hwV, hbV, hg1, hg2, h4, hat⟩ := hcut
  rw [hwV]
  clear hwV
  have hsz := hbV.size
  have hlall : (firstOps (w.heap.size + 1 + 1) (w.heap.size + 1 + 1 + 1) (w.heap.size + 1 + 1 + 1 + 1) ++ os).length = 21 + len := by rw [List.length_append, firstOps_len, hs.hlen]
  have hokV : ∀ o ∈ (firstOps (w.heap.size + 1 + 1) (w.heap.size + 1 + 1 + 1) (w.heap.size + 1 + 1 + 1 + 1) ++ os), OpS V o := fun o ho => by
    rcases List.mem_append.1 ho with ho | ho
    · exact first_station h4 o ho
    · exact (unhide HOK o ho).below hbV (Nat.le_refl _)
  have hone : ∀ o ∈ (firstOps (w.heap.size + 1 + 1) (w.heap.size + 1 + 1 + 1) (w.heap.size + 1 + 1 + 1 + 1) ++ os), o.lv.oneCell' = true := fun o ho => by
    obtain ⟨lp, ln, lc, e⟩ := (hokV o ho).lv
    rw [e]; rfl
  have hCV := (unhide HC).below hbV hw
  generalize hall : (firstOps (w.heap.size + 1 + 1) (w.heap.size + 1 + 1 + 1) (w.heap.size + 1 + 1 + 1 + 1) ++ os) = all at *
  have HAT := hide hat
  have HOKV := hide hokV
  have HONE := hide hone
  have HCV := hide hCV
  have HBV := hide hbV
  have H0 : Hid (Sieve V all 0 (.slice none 0 0) [] V) := ⟨Nat.zero_le _, fun o ho => by simp at ho, World.ownsRow_nil _ _ _ _, Below.refl _ _⟩
  clear hat hokV hone hCV hbV h4 HS hs HOK HC hall
  have hL50 : 21 + len ≤ 49990 := by omega
  generalize hLL : 21 + len = L at *
  clear hLL hl21 hsm
  have hinfo : (Tryz.prog.info? 34).map (·.size) = some 18 := by rw [hi0]; exact congrArg some hy1
  go_wp2
  go_loopg [4, 5] (L) (fun gg z i wr => ∃ (r : Nat) (os2 : List OpV), r + gg = L ∧ i = .int .i64 r ∧ Sieve V all r z os2 wr)
  case atStart => exact ⟨0, [], by omega, rfl, unhide H0⟩
  case round =>
    obtain ⟨r, os2, hrk, rfl, hj⟩ := hrel
    clear H0
    by_cases hr : r < L
    · have hri : (r : Int) < (L : Int) := by omega
      have hr2 : (r : Int) < 144115188075855872 := by omega
      obtain ⟨o, ho⟩ : ∃ o, all[r]? = some o := ⟨all[r], List.getElem?_eq_getElem (by omega)⟩
      have hom := List.mem_of_getElem? ho
      have hat := (unhide HAT).below hj.bel hg2
      have hR : wr.rangeAt g (r * 18) [.int .i64 o.kind, .int .i64 o.a, .int .i64 o.b, .int .i64 o.d, .string o.s, o.lv, .int .i64 o.f.a, .int .i64 o.f.k, .bool o.f.p, .int .i64 o.f.ns, .int .i64 o.f.nr, .slice o.fq o.f.info.length o.fc, .int .i64 o.c0, .int .i64 o.c1, .int .i64 o.c2, .int .i64 o.c3, .int .i64 o.c4, .int .i64 o.c5] := fun j u hj => hat.op ho j (by have := (List.getElem?_eq_some_iff.1 hj).1; simpa using this) hj
      have ks := unnumbered_any o (unhide HOKV o hom).lv wr
      unfold opV at ks
      have KS := hide ks
      have HJ := hide hj
      have HRG := hide hR
      clear ks hat hj hR
      go_wp2_with (first | (refine wpList_load_mid rfl 34 _ rfl g (r * 18) rfl [.int .i64 o.kind, .int .i64 o.a, .int .i64 o.b, .int .i64 o.d, .string o.s, o.lv, .int .i64 o.f.a, .int .i64 o.f.k, .bool o.f.p, .int .i64 o.f.ns, .int .i64 o.f.nr, .slice o.fq o.f.info.length o.fc, .int .i64 o.c0, .int .i64 o.c1, .int .i64 o.c2, .int .i64 o.c3, .int .i64 o.c4, .int .i64 o.c5] _ (unhide HRG) Tryz.underlying34 rfl hinfo ?_) | fail)
      refine (unhide KS).mono ?_
      rintro e w1 ⟨⟨tt, rfl⟩, hb1⟩
      have hj1 := (unhide HJ).later hb1
      have hat := (unhide HAT).below hj1.bel hg2
      clear KS HJ hb1 HRG
      dsimp only
      cases tt with
      | false =>
        have HR := hide hj1.skip
        clear hj1 hat
        go_wp2
        go_roundg (gk - 1)
        case measure => omega
        case rel => exact ⟨r + 1, os2, by omega, by go_num, unhide HR⟩
      | true =>
        have hR : w1.rangeAt g (r * 18) [.int .i64 o.kind, .int .i64 o.a, .int .i64 o.b, .int .i64 o.d, .string o.s, o.lv, .int .i64 o.f.a, .int .i64 o.f.k, .bool o.f.p, .int .i64 o.f.ns, .int .i64 o.f.nr, .slice o.fq o.f.info.length o.fc, .int .i64 o.c0, .int .i64 o.c1, .int .i64 o.c2, .int .i64 o.c3, .int .i64 o.c4, .int .i64 o.c5] := fun j u hj => hat.op ho j (by have := (List.getElem?_eq_some_iff.1 hj).1; simpa using this) hj
        have HRG := hide hR
        obtain ⟨vp, vc, hvs, _⟩ := ownsRow_slice hj1.row
        subst hvs
        obtain ⟨W3, hW3⟩ : ∃ W3, w1.alloc (.cells #[.int .i64 o.kind, .int .i64 o.a, .int .i64 o.b, .int .i64 o.d, .string o.s, o.lv, .int .i64 o.f.a, .int .i64 o.f.k, .bool o.f.p, .int .i64 o.f.ns, .int .i64 o.f.nr, .slice o.fq o.f.info.length o.fc, .int .i64 o.c0, .int .i64 o.c1, .int .i64 o.c2, .int .i64 o.c3, .int .i64 o.c4, .int .i64 o.c5] 34) = W3 := ⟨_, rfl⟩
        have hb3 : Below w1.heap.size w1 W3 := by rw [← hW3]; exact (Below.refl _ w1).alloc (Nat.le_refl _) _
        have hn3 : ∀ j u, (opCells o)[j]? = some u → W3.cell? ((⟨w1.heap.size, 0, none⟩ : Addr).add j) = some u := by rw [← hW3]; exact newsL w1 (opCells o) 34
        have hj3 := hj1.later hb3
        have hz3 := hj3.bel.size
        have hln := hj3.len
        have HROW := hide hj3.row
        have HJ3 := hide hj3
        clear hj1 hat hj3 hb3 hR
        go_wp2_with (first | (first | (refine wpList_load_mid rfl 34 _ rfl g (r * 18) rfl [.int .i64 o.kind, .int .i64 o.a, .int .i64 o.b, .int .i64 o.d, .string o.s, o.lv, .int .i64 o.f.a, .int .i64 o.f.k, .bool o.f.p, .int .i64 o.f.ns, .int .i64 o.f.nr, .slice o.fq o.f.info.length o.fc, .int .i64 o.c0, .int .i64 o.c1, .int .i64 o.c2, .int .i64 o.c3, .int .i64 o.c4, .int .i64 o.c5] _ (unhide HRG) Tryz.underlying34 rfl hinfo ?_) | fail) | (at_builtin; go_loud (refine wpList_append_own_at _ rfl _ _ 22 rfl V.heap.size 34 i0 _ 18 184 Tryz.underlying22 hi0 hy0 hy1 hy2 rfl (by decide) _ _ _ rfl (unhide HROW) ⟨w1.heap.size, 0, none⟩ 1 1 (opCells o) rfl rfl ?p0c1 ?p0c2 ?p0c3 ?p0c4 ?p0c5 ?_)))
        case p0c1 => exact hn3
        case p0c2 => exact opCells_one o (unhide HONE o hom)
        case p0c3 => unfold maxLen; omega
        case p0c4 => omega
        case p0c5 => exact hz3
        intro v5 V5 hown5 hg5 _ _
        have HR := hide ((unhide HJ3).take hom hown5 hg5)
        clear hown5 hg5 HJ3 HROW hn3 HRG
        go_wp2
        go_roundg (gk - 1)
        case measure => omega
        case rel => exact ⟨r + 1, _, by omega, by go_num, unhide HR⟩
    · have hri : ¬ (r : Int) < (L : Int) := by omega
      have hln := hj.len
      have KP : Hid (Calls Tryz.prog 11 #[u4, .int .i64 20, .int .i64 33] wr fun e w' => e = .returned (.bool true) ∧ Below w.heap.size wr w') := by
        have hwr := hj.bel.size
        rcases row_cases hj.row with ⟨rfl, _⟩ | ⟨g5, cap5, rfl, e2, e3, e4⟩
        · exact (played_nil 20 33 wr).mono (fun e w' q => ⟨q.1, q.2.mono (by omega)⟩)
        · exact (played_stations (by omega) ((unhide HCV).below hj.bel (by omega)) (by omega) e3 e4 (fun o ho => ((unhide HOKV) o (hj.sub o ho)).below hj.bel (Nat.le_refl _))).mono (fun e w' q => ⟨q.1, q.2.mono (by omega)⟩)
      have HB : Hid (Below w.heap.size w wr) := (unhide HBV).trans (hj.bel.mono hsz)
      clear hj
      go_wp2_with fail
      refine (unhide KP).mono ?_
      rintro e w2 ⟨rfl, hb2⟩
      have HE := hide ((unhide HB).trans hb2)
      clear KP hb2 HB
      go_wp2
      go_ret
      exact ⟨rfl, unhide HE⟩
end Go.Proofs.YtkalonhalhdlaaaGreatDoor
