import Derived.WalkKit
import Derived.Test.YtkalonhalhdlaaaGreatDoorProg
import Derived.Lib.FrozenHead2
import Derived.Lib.OthersKept
import Derived.Lib.Walk
import Derived.Deep.AppendSrc
import Derived.Lib.AppendZeros
import Derived.Shelf.Bytes.SlEqualAll
import Derived.BigQuiet
import Derived.Deep.QuietTactic
import Derived.Lib.BufferWrite
import Derived.Deep.WholeRow
import Derived.WalkSpells
import Derived.Laws.IdiomStrings
import Derived.ArgAppend
/-
  Small words that all texts use: bytes in memory; facts kept out of sight of the walk.
-/
namespace Go.Proofs.YtkalonhalhdlaaaGreatDoor
open Go.RowKit

theorem hide {p : Prop} (h : p) : Hid p := h
theorem unhide {p : Prop} (h : Hid p) : p := h

/-- Bytes in memory. -/
def Seg (w : World) (b off : Nat) (l : List UInt8) : Prop := ∀ i, i < l.length → w.cell? ⟨b, off + i, none⟩ = some (.int .u8 ((l.getD i 0).toNat : Int))

theorem ret_int {k : IntKind} {a b : Int} (h : a = b) : Ending.returned (.int k a) = .returned (.int k b) := by rw [h]
theorem ret_bool {a b : Bool} (h : a = b) : Ending.returned (.bool a) = .returned (.bool b) := by rw [h]

theorem Seg.below {w w' : World} {b off : Nat} {l : List UInt8} (h : Seg w b off l) {B : Nat} (hb : Below B w w') (hB : b < B) : Seg w' b off l :=
  fun i hi => by rw [hb.cell (p := ⟨b, off + i, none⟩) hB]; exact h i hi
end Go.Proofs.YtkalonhalhdlaaaGreatDoor

/-
  Rows of bytes in memory.
-/
namespace Go.Proofs.YtkalonhalhdlaaaGreatDoor
open Go.RowKit

theorem infoByte : (Tryz.prog.info? 5).map (fun i => (i.zero, i.size, i.bytes)) = some (some (.int .u8 0), 1, 1) := by kernel_rfl

theorem Seg.news {w : World} {b off : Nat} {l : List UInt8} (h : Seg w b off l) : ∀ j u, (Lib.byteCells l)[j]? = some u → w.cell? ((⟨b, off, none⟩ : Addr).add j) = some u := by
  intro j u hj
  have hl : j < l.length := by
    have := (List.getElem?_eq_some_iff.1 hj).1
    simpa [Lib.byteCells] using this
  rw [Go.WideShapes.add_plain, h j hl, ← hj]
  simp [Lib.byteCells, List.getD, hl]
theorem byteCells_one (l : List UInt8) : ∀ u ∈ Lib.byteCells l, u.oneCell' = true := by
  intro u hu
  simp [Lib.byteCells] at hu
  obtain ⟨x, _, rfl⟩ := hu
  rfl

theorem row_is {w : World} {base n : Nat} {v : Value} {l : List UInt8} (h : w.ownsRow base 5 1 v n (Lib.byteCells l)) (hn : n = l.length) (h0 : 0 < n) : ∃ g cap, v = .slice (some ⟨g, 0, none⟩) n cap ∧ Seg w g 0 l := by
  rcases h.2 with ⟨_, he⟩ | ⟨g, cap, cur, hv, _, hg, _, _, _, ht⟩
  · omega
  · refine ⟨g, cap, hv, ?_⟩
    intro i hi
    have q : (cur.toList.take (n * 1))[i]? = (Lib.byteCells l)[i]? := by rw [ht]
    rw [Nat.zero_add, Lib.cell_of_heap hg]
    simp [show i < n by omega] at q
    simp [q, Lib.byteCells, List.getD, hi]


/-- Bytes as the library's contracts take them. -/
def nums (l : List UInt8) : List Int := l.map fun x => (x.toNat : Int)
theorem nums_length (l : List UInt8) : (nums l).length = l.length := by simp [nums]
theorem nums_getD (l : List UInt8) (i : Nat) (h : i < l.length) : (nums l).getD i 0 = ((l.getD i 0).toNat : Int) := by simp [nums, List.getD, h]
theorem bytesOf_nums (l : List UInt8) : Lib.bytesOf (nums l) = l := by
  induction l with
  | nil => rfl
  | cons x r ih =>
    simp only [nums, Lib.bytesOf, List.map_cons, List.map_map] at ih ⊢
    rw [ih]
    simp
theorem nums_cells (l : List UInt8) : (nums l).map (Value.int .u8) = Lib.byteCells l := by simp [nums, Lib.byteCells]
theorem Seg.bytesIn {w : World} {b off : Nat} {l : List UInt8} (h : Seg w b off l) : Lib.BytesIn w (some ⟨b, off, none⟩) l.length (nums l) :=
  Lib.BytesIn.of_cells fun i hi => by rw [Go.WideShapes.add_plain, h i hi, nums_getD l i hi]

theorem ownsRow_mono {w : World} {b0 b1 : Nat} {e : TypeId} {size : Nat} {v : Value} {n : Nat} {xs : List Value} (h : w.ownsRow b1 e size v n xs) (hb : b0 ≤ b1) : w.ownsRow b0 e size v n xs := by
  obtain ⟨h1, h2⟩ := h
  refine ⟨h1, ?_⟩
  rcases h2 with h2 | ⟨g, cap, cur, e1, e2, e3⟩
  · exact Or.inl h2
  · exact Or.inr ⟨g, cap, cur, e1, by omega, e3⟩

theorem ownsRow_set {w : World} {base : Nat} {e : TypeId} {size : Nat} {v : Value} {n : Nat} {xs : List Value} (h : w.ownsRow base e size v n xs) (p : Addr) (hp : p.block < base) (u : Value) : (w.setCell p u).ownsRow base e size v n xs := by
  obtain ⟨h1, h2⟩ := h
  refine ⟨h1, ?_⟩
  rcases h2 with h2 | ⟨g, cap, cur, e1, e2, e3, e4⟩
  · exact Or.inl h2
  · exact Or.inr ⟨g, cap, cur, e1, e2, by rw [Below.heap_setCell w p u g (by omega)]; exact e3, e4⟩

theorem own_slice {w : World} {base : Nat} {e : TypeId} {size : Nat} {v : Value} {n : Nat} {xs : List Value} (h : w.ownsRow base e size v n xs) : ∃ q c, v = .slice q n c := by
  rcases h.2 with ⟨rfl, rfl⟩ | ⟨g, cap, _, rfl, _⟩
  · exact ⟨none, 0, rfl⟩
  · exact ⟨some ⟨g, 0, none⟩, cap, rfl⟩

/-- append, as one step of a region that draws. -/
theorem step_append_own {P : Program} (w : World) {ops : Array Oper} {o : Oper} {a : Act} {K : Act → World → Prop} {Q : Exit → Act → World → Prop} {E : Prop} (hgd : o.guard = none) (s x : Operand) (t : TypeId)
    (ho : o.op = .call { callee := .builtin .append, args := #[s, x], argTypes := #[t, t] })
    (base : Nat) (e : TypeId) (i : TypeInfo) (z : Value) (size bytes : Nat) (ht : P.underlying t = some (.slice e)) (hi : P.info? e = some i) (hz : i.zero = some z)
    (hsize : i.size = size) (hby : i.bytes = bytes) (hzs : z.cells.size = size) (hsz : 0 < size)
    (v : Value) (n : Nat) (xs : List Value) (hs : a.eval s = v) (hown : w.ownsRow base e size v n xs)
    (ad : Addr) (m c : Nat) (news : List Value) (hx : a.eval x = .slice (some ad) m c) (hl : news.length = m * size) (hnews : ∀ j u, news[j]? = some u → w.cell? (ad.add j) = some u) (h1 : ∀ u ∈ news, u.oneCell' = true)
    (h63 : n + m ≤ maxLen) (hbytes : (n + m) * bytes ≤ 140737488355328) (hbase : base ≤ w.heap.size)
    (h : ∀ v' w', w'.ownsRow base e size v' (n + m) (xs ++ news) → w.grownBy w' v.ownBlock → (v' = .slice none 0 0 ↔ v = .slice none 0 0 ∧ m = 0) → K (a.put o.dst v') w') :
    if Region.wanted o (yielded ops a.tmps) = true then Oper.wp P o a w K Q else E := by
  have hw : Region.wanted o (yielded ops a.tmps) = true := by simp [Region.wanted, hgd]
  rw [if_pos hw]
  exact wp_append_own w s x t ho base e i z size bytes ht hi hz hsize hby hzs hsz v n xs hs hown ad m c news hx hl hnews h1 h63 hbytes hbase h

/-- What is appended out of a list of nothing. -/
theorem wpList_append_nil {P : Program} (w : World) {ops : Array Oper} {rest : List Oper} {o : Oper} {a : Act} {Q : Exit → Act → World → Prop} (hgd : o.guard = none) (s x : Operand) (t : TypeId)
    (ho : o.op = .call { callee := .builtin .append, args := #[s, x], argTypes := #[t, t] })
    (e : TypeId) (i : TypeInfo) (ht : P.underlying t = some (.slice e)) (hi : P.info? e = some i)
    (g n cap c : Nat) (hs : a.eval s = .slice (some ⟨g, 0, none⟩) n cap) (hnc : n ≤ cap) (hx : a.eval x = .slice none 0 c)
    (h : wpList P ops Q rest (a.put o.dst (.slice (some ⟨g, 0, none⟩) n cap)) w) : wpList P ops Q (o :: rest) a w := by
  refine Lib.wpList_append_run w hgd s x t t ho _ _ hs hx _ _ ?_ h
  have := run_append_room_src (P := P) w t t o.type e i ht hi g 0 n cap (.slice none 0 c) 0 [] (Src.ofNil w ht c) hnc (by simp) (by simp)
  simpa [World.setCells] using this
end Go.Proofs.YtkalonhalhdlaaaGreatDoor

/-
  Which blocks have turned, which not; rows that one owns behind that.
-/
namespace Go.Proofs.YtkalonhalhdlaaaGreatDoor
open Go.RowKit

/-- Nothing that was there has turned, but blocks in X. -/
structure Keeps (X : Nat → Prop) (w w' : World) : Prop where
  os : w'.os = w.os
  tape : w'.tape = w.tape
  output : w'.output = w.output
  size : w.heap.size ≤ w'.heap.size
  block : ∀ k, k < w.heap.size → ¬ X k → w'.heap[k]? = w.heap[k]?

theorem Keeps.refl (X : Nat → Prop) (w : World) : Keeps X w w := ⟨rfl, rfl, rfl, Nat.le_refl _, fun _ _ _ => rfl⟩
theorem Keeps.trans {X : Nat → Prop} {a b c : World} (h : Keeps X a b) (k : Keeps X b c) : Keeps X a c :=
  ⟨k.os.trans h.os, k.tape.trans h.tape, k.output.trans h.output, Nat.le_trans h.size k.size, fun i hi hx => (k.block i (Nat.lt_of_lt_of_le hi h.size) hx).trans (h.block i hi hx)⟩
theorem Keeps.mono {X Y : Nat → Prop} {a b : World} (h : Keeps X a b) (hXY : ∀ k, X k → Y k) : Keeps Y a b :=
  ⟨h.os, h.tape, h.output, h.size, fun i hi hx => h.block i hi fun hh => hx (hXY i hh)⟩
theorem Keeps.of {X : Nat → Prop} {w w' : World} (h : Below w.heap.size w w') : Keeps X w w' := ⟨h.os, h.tape, h.output, h.size, fun k hk _ => h.block k hk⟩
theorem Keeps.alloc {X : Nat → Prop} {a w : World} (h : Keeps X a w) (o : Obj) : Keeps X a (w.alloc o) :=
  h.trans (Keeps.of ((Below.refl _ w).alloc (Nat.le_refl _) o))
theorem Keeps.drew {X : Nat → Prop} {a w : World} (h : Keeps X a w) : Keeps X a w.drew := ⟨h.os, h.tape, h.output, h.size, h.block⟩
theorem Keeps.drewN {X : Nat → Prop} {a w : World} (h : Keeps X a w) (n : Nat) : Keeps X a (w.drewN n) := ⟨h.os, h.tape, h.output, h.size, h.block⟩
theorem Keeps.setCell {X : Nat → Prop} {a w : World} (h : Keeps X a w) {p : Addr} (hp : X p.block) (u : Value) : Keeps X a (w.setCell p u) :=
  h.trans ⟨rfl, rfl, rfl, by simp [World.setCell], fun k _ hx => Below.heap_setCell _ _ _ _ (fun e => hx (e ▸ hp))⟩
theorem Keeps.setB {b : Nat} {a w : World} (h : Keeps (· = b) a w) (off : Nat) (u : Value) : Keeps (· = b) a (w.setCell ⟨b, off, none⟩ u) := h.setCell (p := ⟨b, off, none⟩) rfl u
/-- A store into a block that was not there. -/
theorem Keeps.setNew {X : Nat → Prop} {a w : World} (h : Keeps X a w) {p : Addr} (hp : a.heap.size ≤ p.block) (u : Value) : Keeps X a (w.setCell p u) :=
  ⟨h.os, h.tape, h.output, by rw [show (w.setCell p u).heap.size = w.heap.size by simp [World.setCell]]; exact h.size, fun k hk hx => (Below.heap_setCell _ _ _ _ (by omega)).trans (h.block k hk hx)⟩
theorem Keeps.below {w w' : World} (h : Keeps (fun _ => False) w w') : Below w.heap.size w w' := ⟨h.os, h.tape, h.output, h.size, fun k hk => h.block k hk id⟩
theorem Keeps.cell {X : Nat → Prop} {w w' : World} (h : Keeps X w w') {p : Addr} (hp : p.block < w.heap.size) (hx : ¬ X p.block) : w'.cell? p = w.cell? p := World.cell?_of_block (w := w) (h.block p.block hp hx)
theorem Seg.keeps {X : Nat → Prop} {w w' : World} {b off : Nat} {l : List UInt8} (h : Seg w b off l) (hk : Keeps X w w') (hb : b < w.heap.size) (hx : ¬ X b) : Seg w' b off l :=
  fun i hi => by rw [hk.cell (p := ⟨b, off + i, none⟩) hb hx]; exact h i hi
theorem ownsRow_keeps {X : Nat → Prop} {w w' : World} {b0 : Nat} {e : TypeId} {size : Nat} {v : Value} {n : Nat} {xs : List Value} (h : w.ownsRow b0 e size v n xs) (hk : Keeps X w w') (hx : ∀ k, X k → ∀ c fz, w.heap[k]? ≠ some (.cells c e fz)) : w'.ownsRow b0 e size v n xs := by
  obtain ⟨h1, h2⟩ := h
  refine ⟨h1, ?_⟩
  rcases h2 with h2 | ⟨g, cap, cur, e1, e2, e3, e4⟩
  · exact Or.inl h2
  · exact Or.inr ⟨g, cap, cur, e1, e2, by rw [hk.block g (Array.getElem?_eq_some_iff.1 e3).1 (fun hg => hx g hg _ _ e3)]; exact e3, e4⟩
theorem Keeps.grown {w w' : World} {row : Option Nat} (h : w.grownBy w' row) : Keeps (fun k => some k = row) w w' := ⟨h.os, h.tape, h.output, h.size, fun k hk hx => h.block k hk hx⟩
/-- What a value's block is: one of those that may turn, or new. -/
def Mine (X : Nat → Prop) (n : Nat) (v : Value) : Prop := ∀ k, v.ownBlock = some k → X k ∨ n ≤ k
theorem Mine.nil (X : Nat → Prop) (n : Nat) : Mine X n (.slice none 0 0) := fun k h => by simp [Value.ownBlock] at h
theorem ownsRow_isRow {w : World} {base : Nat} {e : TypeId} {size : Nat} {v : Value} {n : Nat} {xs : List Value} (h : w.ownsRow base e size v n xs) {k : Nat} (hk : v.ownBlock = some k) : ∃ c, w.heap[k]? = some (.cells c e (0, 0)) := by
  rcases h.2 with ⟨hv, _⟩ | ⟨g, cap, cur, hv, _, hg, _⟩
  · rw [hv] at hk; simp [Value.ownBlock] at hk
  · rw [hv] at hk
    simp [Value.ownBlock] at hk
    subst hk
    exact ⟨cur, hg⟩
theorem size_setCell (w : World) (p : Addr) (u : Value) : (w.setCell p u).heap.size = w.heap.size := by
  show (w.heap.modify _ _).size = _
  rw [Array.size_modify]
theorem alloc1_s (w : World) (o : Obj) : (w.alloc o).heap.size = w.heap.size + 1 := by
  show (w.heap.push o).size = _
  rw [Array.size_push]
theorem alloc1_a (w : World) (o : Obj) : (w.alloc o).heap[w.heap.size]? = some o := by
  show (w.heap.push o)[w.heap.size]? = some o
  rw [Array.getElem?_push]
  simp
theorem news1 (w : World) (u : Value) (e : TypeId) : ∀ j x, [u][j]? = some x → (w.alloc (.cells #[u] e)).cell? ((⟨w.heap.size, 0, none⟩ : Addr).add j) = some x := by
  intro j x hj
  rcases j with _ | j
  · simp at hj
    subst hj
    rw [Go.WideShapes.add_plain, Lib.cell_of_heap (alloc1_a w _)]
    rfl
  · simp at hj
theorem news2 (w : World) (a b : Value) (e : TypeId) : ∀ j x, [a, b][j]? = some x → (w.alloc (.cells #[a, b] e)).cell? ((⟨w.heap.size, 0, none⟩ : Addr).add j) = some x := by
  intro j x hj
  rcases j with _ | _ | j
  · simp at hj
    subst hj
    rw [Go.WideShapes.add_plain, Lib.cell_of_heap (alloc1_a w _)]
    rfl
  · simp at hj
    subst hj
    rw [Go.WideShapes.add_plain, Lib.cell_of_heap (alloc1_a w _)]
    rfl
  · simp at hj
theorem Seg.take {w : World} {b off : Nat} {l : List UInt8} (h : Seg w b off l) (n : Nat) : Seg w b off (l.take n) := by
  intro i hi
  have hi2 : i < n ∧ i < l.length := by rw [List.length_take] at hi; omega
  rw [h i hi2.2]
  simp [List.getD, hi2.1]
end Go.Proofs.YtkalonhalhdlaaaGreatDoor

/-
  What one call of tetherlaw's pick, mark, lent and whole does.
-/
namespace Go.Proofs.YtkalonhalhdlaaaGreatDoor
open Go.RowKit

theorem lawPick_any (c n : Int) (w : World) (hc : -9223372036854775808 ≤ c ∧ c ≤ 9223372036854775807) (hn : 0 < n) (hn2 : n ≤ 9223372036854775807) :
    Calls Tryz.prog 16 #[.int .i64 c, .int .i64 n] w fun e w' => (∃ r : Nat, (r : Int) < n ∧ e = .returned (.int .i64 r)) ∧ w' = w := by
  by_cases h0 : c < 0
  · go_enter Tryz.func16, Tryz.ntmps16
    go_wp2
    go_ret
    have h1 : (-(c + 1)).tmod n = (-(c + 1)) % n := Int.tmod_eq_emod_of_nonneg (by omega)
    have h2 : -((c + 1).tmod n) = (-(c + 1)) % n := by rw [← h1, Int.neg_tmod]
    have h3 := Int.emod_nonneg (-(c + 1)) (show n ≠ 0 by omega)
    have h4 := Int.emod_lt_of_pos (-(c + 1)) hn
    refine ⟨⟨((-(c + 1)) % n).toNat, by omega, ?_⟩, rfl⟩
    show Ending.returned (.int .i64 (-((c + 1).tmod n))) = _
    rw [h2]
    exact ret_int (by omega)
  · go_enter Tryz.func16, Tryz.ntmps16
    go_wp2
    go_ret
    have h3 := Int.emod_nonneg c (show n ≠ 0 by omega)
    have h4 := Int.emod_lt_of_pos c hn
    refine ⟨⟨(c % n).toNat, by omega, ?_⟩, rfl⟩
    show Ending.returned (.int .i64 (c % n)) = _
    exact ret_int (by omega)

/-- What the caller writes into the n-th list. -/
def markN (n : Nat) : Nat := 200 + n / 4 % 50
theorem mark_any (n : Nat) (w : World) (hn : n ≤ maxLen) :
    Calls Tryz.prog 23 #[.int .i64 (n : Int)] w fun e w' => e = .returned (.int .u8 (markN n : Nat)) ∧ w' = w := by
  unfold maxLen at hn
  go_enter Tryz.func23, Tryz.ntmps23
  go_wp2
  go_ret
  refine ⟨?_, rfl⟩
  apply congrArg Ending.returned
  simp [markN]

/-- A row of bytes, a block of its own. -/
def RowIs (w : World) (g : Nat) (l : List UInt8) : Prop := w.heap[g]? = some (.cells (Lib.byteCells l).toArray 5 (0, 0))
section
variable {w : World} {g : Nat} {l : List UInt8}
theorem RowIs.lt (h : RowIs w g l) : g < w.heap.size := (Array.getElem?_eq_some_iff.1 h).1
theorem RowIs.cell (h : RowIs w g l) (i : Nat) (hi : i < l.length) : w.cell? ⟨g, i, none⟩ = some (.int .u8 ((l.getD i 0).toNat : Int)) := by
  rw [Lib.cell_of_heap h]
  simp [Lib.byteCells, List.getD, hi]
theorem RowIs.fz (h : RowIs w g l) (i : Nat) : w.frozen? ⟨g, i, none⟩ = false := Lib.frozen_of_heap h i
theorem RowIs.set (h : RowIs w g l) (i : Nat) (x : UInt8) : RowIs (w.setCell ⟨g, i, none⟩ (.int .u8 (x.toNat : Int))) g (l.set i x) := by
  unfold RowIs at *
  simp [World.setCell, Array.getElem?_modify, h, Lib.byteCells]
theorem RowIs.seg (h : RowIs w g l) : Seg w g 0 l := fun i hi => by rw [Nat.zero_add]; exact h.cell i hi
theorem RowIs.below {w' : World} {B : Nat} (h : RowIs w g l) (hb : Below B w w') (hB : g < B) : RowIs w' g l := by
  unfold RowIs
  rw [hb.block g hB]; exact h
theorem RowIs.keeps {w' : World} {X : Nat → Prop} (h : RowIs w g l) (hb : Keeps X w w') (hB : ¬ X g) : RowIs w' g l := by
  unfold RowIs
  rw [hb.block g h.lt hB]; exact h
end
/-- What is lent: the bytes, and eight more behind. -/
def lentL (s : ByteArray) : List UInt8 := s.data.toList ++ List.replicate 8 77
theorem lentL_length (s : ByteArray) : (lentL s).length = s.size + 8 := by simp [lentL]
theorem make_row (n : Nat) (hn : n ≤ 1099511627784) (w : World) : (Instr.makeSlice 28 (.int .i64 (n : Int)) (.int .i64 (n : Int))).run Tryz.prog w = .ok (.slice (some ⟨w.heap.size, 0, none⟩) n n) (w.alloc (.cells (Lib.byteCells (List.replicate n 0)).toArray 5)) := by
  obtain ⟨i0, hi, hz0, hz1, hz2⟩ := info_parts infoByte
  rw [run_make w 28 5 i0 (.int .u8 0) Tryz.underlying28 hi hz0 .i64 .i64 n n (by omega) (Int.le_refl _) (by rw [hz2]; omega) (by omega)]
  have e : madeCells (Value.cells (.int .u8 0)) ((n : Int).toNat * i0.size) = (Lib.byteCells (List.replicate n 0)).toArray := by
    rw [hz1]
    apply Array.ext
    · simp [size_madeCells, Lib.byteCells]
    · intro j h1 h2
      simp [madeCells, Value.cells, Lib.byteCells, Nat.mod_one]
  rw [e]
  simp

theorem toList_nil (s : ByteArray) : s.toList = [] ↔ s.size = 0 := by
  rw [ByteArray.toList_eq]
  constructor
  · intro h
    show s.data.size = 0
    rw [← Array.length_toList, h]
    rfl
  · intro h
    exact List.length_eq_zero_iff.1 (by rw [Array.length_toList]; exact h)
theorem lent_copied (s : ByteArray) : (List.take 0 (Lib.byteCells (List.replicate (s.size + 8) (0 : UInt8))) ++ Lib.byteCells s.data.toList ++ List.drop (0 + s.size) (Lib.byteCells (List.replicate (s.size + 8) (0 : UInt8)))).toArray = (Lib.byteCells (s.data.toList ++ List.replicate 8 0)).toArray := by
  congr 1
  simp [Lib.byteCells]
theorem lent_put (s : ByteArray) (k : Nat) (hk : k < 8) : (s.data.toList ++ (List.replicate k 77 ++ List.replicate (8 - k) (0 : UInt8))).set (s.size + k) 77 = s.data.toList ++ (List.replicate (k + 1) 77 ++ List.replicate (8 - (k + 1)) 0) := by
  have e : s.size = s.data.toList.length := by simp
  rw [e, List.set_append_right _ _ (by omega)]
  congr 1
  have e2 : s.data.toList.length + k - s.data.toList.length = k := by omega
  rw [e2]
  apply List.ext_getElem
  · simp; omega
  · intro i h1 h2
    rw [List.getElem_set]
    simp only [List.getElem_append, List.length_replicate, List.getElem_replicate]
    split
    · rename_i e; subst e; simp
    · split <;> split <;> first | rfl | omega

set_option maxHeartbeats 2000000 in
set_option maxRecDepth 100000 in
theorem lent_nil (s : ByteArray) (raw : Int) (w : World) (h0 : s.size = 0) (h1 : raw.tmod 2 ≠ 0) :
    Calls Tryz.prog 24 #[.string s, .int .i64 raw] w fun e w' => e = .returned (.slice none 0 0) ∧ w' = w := by
  have g0 : s.toList = [] := (toList_nil s).2 h0
  have g1 : (raw.tmod 2 != 0) = true := by simpa using h1
  go_enter Tryz.func24, Tryz.ntmps24
  go_wp2
  go_ret
  exact ⟨rfl, rfl⟩

theorem copy_lent (s : ByteArray) (w : World) : ∃ W1, (Builtin.copy_ #[28, 9] 3 #[.slice (some ⟨w.heap.size, 0, none⟩) (s.size + 8) (s.size + 8), .string s]).run Tryz.prog (w.alloc (.cells (Lib.byteCells (List.replicate (s.size + 8) 0)).toArray 5)) = .ok (.int .i64 s.size) W1 ∧ RowIs W1 w.heap.size (s.data.toList ++ (List.replicate 0 77 ++ List.replicate (8 - 0) 0)) ∧ Below w.heap.size w W1 ∧ W1.heap.size = w.heap.size + 1 := by
  have h := Lib.run_copy_row_string (P := Tryz.prog) (w.alloc (.cells (Lib.byteCells (List.replicate (s.size + 8) 0)).toArray 5)) 28 9 3 5 w.heap.size 0 (s.size + 8) (s.size + 8) s _ 5 Tryz.underlying28 (by kernel_rfl) (alloc1_a w _) (by omega) (by simp [Lib.byteCells])
  rw [World.setRow_alloc_new] at h
  have e := lent_copied s
  refine ⟨_, h, ?_, (Below.refl _ w).alloc (Nat.le_refl _) _, alloc1_s w _⟩
  unfold RowIs
  rw [alloc1_a, e]
  simp

set_option maxHeartbeats 2000000 in
set_option maxRecDepth 100000 in
theorem lent_some (s : ByteArray) (raw : Int) (w : World) (hs : s.size ≤ 1099511627776) (hne : ¬ (s.size = 0 ∧ raw.tmod 2 ≠ 0)) :
    Calls Tryz.prog 24 #[.string s, .int .i64 raw] w fun e w' => e = .returned (.slice (some ⟨w.heap.size, 0, none⟩) s.size (s.size + 8)) ∧ RowIs w' w.heap.size (lentL s) ∧ Below w.heap.size w w' ∧ w'.heap.size = w.heap.size + 1 := by
  have hmk : ∀ w : World, (Instr.makeSlice 28 (.int .i64 ((s.size : Int) + 8)) (.int .i64 ((s.size : Int) + 8))).run Tryz.prog w = .ok (.slice (some ⟨w.heap.size, 0, none⟩) (s.size + 8) (s.size + 8)) (w.alloc (.cells (Lib.byteCells (List.replicate (s.size + 8) 0)).toArray 5)) := make_row (s.size + 8) (by omega)
  obtain ⟨W1, hcp, hrow, hbel, hsz⟩ := copy_lent s w
  have main : ∀ (K : Prop), K → K := fun _ h => h
  by_cases h0 : s.size = 0
  · have g0 : s.toList = [] := (toList_nil s).2 h0
    have g1 : (raw.tmod 2 != 0) = false := by
      by_cases h : raw.tmod 2 = 0
      · simp [h]
      · exact absurd ⟨h0, h⟩ hne
    clear hne h0 main
    go_enter Tryz.func24, Tryz.ntmps24
    go_wp2
    go_loopw [7] (fun v wr => ∃ (k : Nat), k ≤ 8 ∧ v = .int .i64 (s.size + k : Nat) ∧ RowIs wr w.heap.size (s.data.toList ++ (List.replicate k 77 ++ List.replicate (8 - k) 0)) ∧ Below w.heap.size w wr ∧ wr.heap.size = w.heap.size + 1) (fun v _ => s.size + 8 - (intOf v).toNat)
    case atStart => exact ⟨0, Nat.zero_le _, rfl, hrow, hbel, hsz⟩
    case round =>
      clear hrow hbel hsz hcp
      obtain ⟨k, hk, rfl, hrow, hbel, hsz⟩ := hrel
      by_cases hlt : k < 8
      · have c0 := hrow.cell (s.size + k) (by simp; omega)
        have fz := hrow.fz
        have hput := hrow.set (s.size + k) 77
        rw [lent_put s k hlt] at hput
        have HP := hide hput
        have HB := hide ((hbel.setCell (p := ⟨w.heap.size, s.size + k, none⟩) (Nat.le_refl _) (.int .u8 ((77 : UInt8).toNat : Int))))
        have HZ := hide ((size_setCell wr ⟨w.heap.size, s.size + k, none⟩ (.int .u8 ((77 : UInt8).toNat : Int))).trans hsz)
        clear hput
        go_wp2
        go_roundw
        case rel => exact ⟨k + 1, hlt, by go_num, unhide HP, unhide HB, unhide HZ⟩
        case measure => simp [intOf]; omega
      · have e8 : k = 8 := by omega
        subst e8
        have HR : Hid (RowIs wr w.heap.size (lentL s)) := by show RowIs _ _ _; simpa [lentL] using hrow
        clear hrow
        go_wp2
        go_ret
        exact ⟨by simp, unhide HR, hbel, hsz⟩
  · have g0 : ¬ s.toList = [] := fun h => h0 ((toList_nil s).1 h)
    have g1 : s.toList.isEmpty = false := by simpa using g0
    clear hne h0 main
    go_enter Tryz.func24, Tryz.ntmps24
    go_wp2
    go_loopw [7] (fun v wr => ∃ (k : Nat), k ≤ 8 ∧ v = .int .i64 (s.size + k : Nat) ∧ RowIs wr w.heap.size (s.data.toList ++ (List.replicate k 77 ++ List.replicate (8 - k) 0)) ∧ Below w.heap.size w wr ∧ wr.heap.size = w.heap.size + 1) (fun v _ => s.size + 8 - (intOf v).toNat)
    case atStart => exact ⟨0, Nat.zero_le _, rfl, hrow, hbel, hsz⟩
    case round =>
      clear hrow hbel hsz hcp
      obtain ⟨k, hk, rfl, hrow, hbel, hsz⟩ := hrel
      by_cases hlt : k < 8
      · have c0 := hrow.cell (s.size + k) (by simp; omega)
        have fz := hrow.fz
        have hput := hrow.set (s.size + k) 77
        rw [lent_put s k hlt] at hput
        have HP := hide hput
        have HB := hide ((hbel.setCell (p := ⟨w.heap.size, s.size + k, none⟩) (Nat.le_refl _) (.int .u8 ((77 : UInt8).toNat : Int))))
        have HZ := hide ((size_setCell wr ⟨w.heap.size, s.size + k, none⟩ (.int .u8 ((77 : UInt8).toNat : Int))).trans hsz)
        clear hput
        go_wp2
        go_roundw
        case rel => exact ⟨k + 1, hlt, by go_num, unhide HP, unhide HB, unhide HZ⟩
        case measure => simp [intOf]; omega
      · have e8 : k = 8 := by omega
        subst e8
        have HR : Hid (RowIs wr w.heap.size (lentL s)) := by show RowIs _ _ _; simpa [lentL] using hrow
        clear hrow
        go_wp2
        go_ret
        exact ⟨by simp, unhide HR, hbel, hsz⟩
end Go.Proofs.YtkalonhalhdlaaaGreatDoor

/-
  What one call of tetherlaw.whole does.
-/
namespace Go.Proofs.YtkalonhalhdlaaaGreatDoor
open Go.RowKit

theorem bytes_eql_nil (a : Option Addr) (n c : Nat) (w : World) : (binOp .eql 28 (.slice a n c) (.slice none 0 0)).run Tryz.prog w = .ok (.bool a.isNone) w :=
  Lib.run_eql_slice_nil w 28 5 a n c 0 0 Tryz.underlying28
theorem seg_string {w : World} {b off cap : Nat} {l : List UInt8} (h : Seg w b off l) : (convert 28 9 (.slice (some ⟨b, off, none⟩) l.length cap)).run Tryz.prog w = .ok (.string ⟨l.toArray⟩) w :=
  run_convert_bytes_back w 28 9 5 ⟨b, off, none⟩ cap l Tryz.underlying28 Tryz.underlying5 Tryz.underlying9 (fun j hj => by
    rw [Go.WideShapes.add_plain, h j hj]
    simp [List.getD, hj])
theorem whole_get (s : ByteArray) (k : Nat) (hk : s.size ≤ k) (hk8 : k < s.size + 8) : (List.replicate k (1 : UInt8) ++ (lentL s).drop k).getD k 0 = 77 := by
  have e : s.data.toList.length = s.size := by simp
  simp only [List.getD]
  rw [List.getElem?_append_right (by simp), List.length_replicate, Nat.sub_self, List.getElem?_drop, Nat.add_zero, lentL, List.getElem?_append_right (by omega), e]
  rw [List.getElem?_replicate, if_pos (by omega)]
  rfl
theorem whole_put (s : ByteArray) (k : Nat) (hk8 : k < s.size + 8) : (List.replicate k (1 : UInt8) ++ (lentL s).drop k).set k 1 = List.replicate (k + 1) 1 ++ (lentL s).drop (k + 1) := by
  have hl := lentL_length s
  rw [List.set_append_right _ _ (by simp), List.length_replicate, Nat.sub_self, List.drop_eq_getElem_cons (by omega), List.set_cons_zero]
  rw [List.replicate_succ', List.append_assoc]
  rfl

set_option maxHeartbeats 2000000 in
set_option maxRecDepth 100000 in
theorem whole_nil (s : ByteArray) (w : World) :
    Calls Tryz.prog 26 #[.slice none 0 0, .string s] w fun e w' => e = .returned (.bool true) ∧ w' = w := by
  have hq := bytes_eql_nil none 0 0
  go_enter Tryz.func26, Tryz.ntmps26
  go_wp2
  go_ret
  exact ⟨rfl, rfl⟩

set_option maxHeartbeats 2000000 in
set_option maxRecDepth 100000 in
theorem whole_some (g : Nat) (s : ByteArray) (w : World) (hs : s.size ≤ 1099511627776) (hr : RowIs w g (lentL s)) :
    Calls Tryz.prog 26 #[.slice (some ⟨g, 0, none⟩) s.size (s.size + 8), .string s] w fun e w' => e = .returned (.bool true) ∧ Keeps (· = g) w w' ∧ w'.heap.size = w.heap.size := by
  have hq := bytes_eql_nil (some ⟨g, 0, none⟩) s.size (s.size + 8)
  have hcv : (convert 28 9 (.slice (some ⟨g, 0, none⟩) s.size (s.size + 8))).run Tryz.prog w = .ok (.string s) w := by
    have h0 : Seg w g 0 s.data.toList := by
      have := hr.seg.take s.size
      have e : (lentL s).take s.size = s.data.toList := by
        have e2 : s.size = s.data.toList.length := by simp
        rw [lentL, e2, List.take_left]
      rwa [e] at this
    have h1 := seg_string (cap := s.size + 8) h0
    have e2 : s.data.toList.length = s.size := by simp
    rw [e2] at h1
    simpa using h1
  have HR := hide hr
  clear hr
  go_enter Tryz.func26, Tryz.ntmps26
  go_wp2
  go_loopw [7, 8] (fun o v wr => ∃ (k : Nat), k ≤ s.size + 8 ∧ o = .bool true ∧ v = .int .i64 k ∧ RowIs wr g (List.replicate k 1 ++ (lentL s).drop k) ∧ Keeps (· = g) w wr ∧ wr.heap.size = w.heap.size) (fun _ v _ => s.size + 8 - (intOf v).toNat)
  case atStart => exact ⟨0, Nat.zero_le _, by simp, rfl, by simpa using unhide HR, Keeps.refl _ _, rfl⟩
  case round =>
    clear HR hcv
    obtain ⟨k, hk, rfl, rfl, hrow, hkp, hsz⟩ := hrel
    by_cases hlt : k < s.size + 8
    · have c0 := hrow.cell k (by simp [lentL_length]; omega)
      have fz := hrow.fz
      have hput := hrow.set k 1
      rw [whole_put s k hlt] at hput
      have HP := hide hput
      have HB := hide (hkp.setB k (.int .u8 ((1 : UInt8).toNat : Int)))
      have HZ := hide ((size_setCell wr ⟨g, k, none⟩ (.int .u8 ((1 : UInt8).toNat : Int))).trans hsz)
      clear hput
      by_cases hks : k < s.size
      · have g1 : (k : Int) < (s.size : Int) := by omega
        generalize (List.replicate k (1 : UInt8) ++ (lentL s).drop k).getD k 0 = x at c0
        go_wp2
        go_roundw
        case rel => exact ⟨k + 1, hlt, rfl, by go_num, unhide HP, unhide HB, unhide HZ⟩
        case measure => simp [intOf]; omega
      · have g1 : ¬ ((k : Int) < (s.size : Int)) := by omega
        rw [whole_get s k (by omega) hlt] at c0
        go_wp2
        go_roundw
        case rel => exact ⟨k + 1, hlt, rfl, by go_num, unhide HP, unhide HB, unhide HZ⟩
        case measure => simp [intOf]; omega
    · go_wp2
      go_ret
      exact ⟨rfl, hkp, hsz⟩
end Go.Proofs.YtkalonhalhdlaaaGreatDoor

/-
  Lists that hold one mark alone, and append onto such a list: what was marked so in its row stays so.
-/
namespace Go.Proofs.YtkalonhalhdlaaaGreatDoor
open Go.RowKit

/-- k times the cells of one mark. -/
def reps (mk : List Value) (k : Nat) : List Value := (List.replicate k mk).flatten
theorem reps_length (mk : List Value) (k : Nat) : (reps mk k).length = k * mk.length := by
  induction k with
  | zero => simp [reps]
  | succ k ih =>
    have e : reps mk (k + 1) = mk ++ reps mk k := by simp [reps, List.replicate_succ]
    rw [e, List.length_append, ih, Nat.succ_mul]; omega
theorem reps_add (mk : List Value) (a b : Nat) : reps mk (a + b) = reps mk a ++ reps mk b := by
  unfold reps
  rw [← List.flatten_append, List.replicate_append_replicate]
theorem reps_take (mk : List Value) (a b : Nat) (h : a ≤ b) : (reps mk b).take (a * mk.length) = reps mk a := by
  have e : b = a + (b - a) := by omega
  rw [e, reps_add, ← reps_length mk a, List.take_left]
theorem reps_one {mk : List Value} (h : ∀ u ∈ mk, u.oneCell' = true) (k : Nat) : ∀ u ∈ reps mk k, u.oneCell' = true := by
  intro u hu
  simp only [reps, List.mem_flatten, List.mem_replicate] at hu
  obtain ⟨l, ⟨_, rfl⟩, hl⟩ := hu
  exact h u hl

/-- A list of k things, each the mark. -/
def MarksK (w : World) (e : TypeId) (mk : List Value) (v : Value) (k : Nat) : Prop := w.ownsRow 0 e mk.length v k (reps mk k)
theorem MarksK.grown {w w' : World} {e : TypeId} {mk : List Value} {v : Value} {k : Nat} {row : Option Nat} (h : MarksK w e mk v k) (hg : w.grownBy w' row) (hne : v.ownBlock = none ∨ v.ownBlock ≠ row) : MarksK w' e mk v k := World.ownsRow.kept h hg hne
theorem MarksK.pre {w : World} {e : TypeId} {mk : List Value} {g k K cap : Nat} (h : MarksK w e mk (.slice (some ⟨g, 0, none⟩) K cap) K) (hk : k ≤ K) : MarksK w e mk (.slice (some ⟨g, 0, none⟩) k cap) k := by
  rcases h.2 with ⟨hv, _⟩ | ⟨g', cap', cur, hv, hb, hg, hc, hm, hs, ht⟩
  · simp at hv
  · simp only [Value.slice.injEq, Option.some.injEq, Addr.mk.injEq] at hv
    obtain ⟨⟨rfl, _⟩, _, rfl⟩ := hv
    refine ⟨reps_length mk k, .inr ⟨g, cap, cur, rfl, Nat.zero_le _, hg, by omega, hm, hs, ?_⟩⟩
    rw [← reps_take mk k K hk, ← ht, List.take_take]
    congr 1
    exact (Nat.min_eq_left (Nat.mul_le_mul_right _ hk)).symm

theorem wpList_append_marks {P : Program} (w : World) {ops : Array Oper} {rest : List Oper} {o : Oper} {a : Act} {Q : Exit → Act → World → Prop}
    (hg : o.guard = none) (s x : Operand) (t : TypeId) (hop : o.op = Op.call { callee := Callee.builtin Builtin.append, args := #[s, x], argTypes := #[t, t] })
    (e : TypeId) (i : TypeInfo) (z : Value) (bytes : Nat) (mk : List Value) (h1 : P.underlying t = some (.slice e)) (h2 : P.info? e = some i) (h3 : i.zero = some z) (h4 : i.size = mk.length) (h5 : i.bytes = bytes) (h6 : z.cells.size = mk.length) (h7 : 0 < mk.length)
    (ho : ∀ u ∈ mk, u.oneCell' = true)
    (v : Value) (n : Nat) (hs : a.eval s = v) (hown : MarksK w e mk v n) (ad : Addr) (m c : Nat) (hm0 : 0 < m) (hx : a.eval x = .slice (some ad) m c)
    (hc : ∀ j u, (reps mk m)[j]? = some u → w.cell? (ad.add j) = some u) (b1 : n + m ≤ maxLen) (b2 : (n + m) * bytes ≤ 140737488355328)
    (hK : ∀ v' w', MarksK w' e mk v' (n + m) → (∀ u k, MarksK w e mk u k → (u.ownBlock = v.ownBlock → k ≤ n + m) → MarksK w' e mk u k) → w.grownBy w' v.ownBlock →
      (v'.ownBlock = v.ownBlock ∨ ∃ q, v'.ownBlock = some q ∧ w.heap.size ≤ q) → wpList P ops Q rest (a.put o.dst v') w') :
    wpList P ops Q (o :: rest) a w := by
  have hnl : (reps mk m).length = m * mk.length := reps_length mk m
  have hno := reps_one ho m
  have hgrow : ∀ ao cap, v = .slice ao n cap → (ao = none → n = 0 ∧ cap = 0) → cap < n + m → wpList P ops Q (o :: rest) a w := by
    intro ao cap hv hnone hfull
    refine wpList_append_grows w hg s x t hop e i z mk.length bytes h1 h2 h3 h4 h5 h6 h7 ao n cap (reps mk n) (hs.trans hv) hnone (reps_length mk n) ?_ ad m c (reps mk m) hx hnl hc hno hfull b1 b2 ?_
    · intro b hb j u hj
      rw [hv, hb] at hown
      rcases hown.2 with ⟨hv', _⟩ | ⟨g, cp, cur, hv', _⟩
      · simp at hv'
      · simp only [Value.slice.injEq, Option.some.injEq] at hv'
        rw [hv'.1]
        exact World.ownsRow.cells hown (g := g) (by rw [hv'.1]; rfl) j u hj
    · intro v' w' hw' hgr
      rw [← reps_add] at hw'
      refine hK v' w' (ownsRow_mono hw' (Nat.zero_le _)) (fun u k hu _ => hu.grown hgr ?_) ⟨hgr.os, hgr.tape, hgr.output, hgr.size, fun k hk _ => hgr.block k hk (by simp)⟩ ?_
      · cases hub : u.ownBlock with
        | none => exact .inl rfl
        | some q => exact .inr (by simp)
      · rcases hw'.2 with ⟨_, h0⟩ | ⟨g, cp, cur, hv', hb, _⟩
        · omega
        · exact .inr ⟨g, by rw [hv']; rfl, hb⟩
  rcases hown.2 with ⟨hv, hn⟩ | ⟨g, cap, cur, hv, _, hgc, hcap, hmx, hsz, ht⟩
  · exact hgrow none 0 (by rw [hv, hn]) (fun _ => ⟨hn, rfl⟩) (by omega)
  · by_cases hroom : n + m ≤ cap
    · rw [hv] at hown
      refine wpList_append_fits w hg s x t hop 0 e i mk.length h1 h2 h4 g n cap (reps mk n) (hs.trans hv) hown ad m c (reps mk m) hx hnl hc hno hroom ?_
      intro w' hw' hgr
      rw [← reps_add] at hw'
      have hvb : v.ownBlock = some g := by rw [hv]; rfl
      refine hK _ w' hw' (fun u k hu hle => ?_) (by rw [hvb]; exact hgr) (.inl (by rw [hvb]; rfl))
      by_cases hub : u.ownBlock = some g
      · have hk := hle (by rw [hub, hvb])
        rcases hu.2 with ⟨huv, _⟩ | ⟨g2, cap2, cur2, huv, _, hg2, hc2, hm2, hs2, ht2⟩
        · rw [huv] at hub; simp [Value.ownBlock] at hub
        · have eg : g2 = g := by rw [huv] at hub; simpa [Value.ownBlock] using hub
          subst eg
          rw [hgc] at hg2
          simp only [Option.some.injEq, Obj.cells.injEq] at hg2
          have ec : cap2 = cap := by
            have : cap2 * mk.length = cap * mk.length := by rw [← hs2, ← hsz, hg2.1]
            exact Nat.eq_of_mul_eq_mul_right h7 this
          rw [huv, ec]
          exact MarksK.pre hw' hk
      · exact hu.grown hgr (.inr hub)
    · exact hgrow (some ⟨g, 0, none⟩) cap hv (fun h => by simp at h) (by omega)
end Go.Proofs.YtkalonhalhdlaaaGreatDoor

/-
  The book of lists that came out, in memory; what one step of its writing does.
-/
namespace Go.Proofs.YtkalonhalhdlaaaGreatDoor
open Go.RowKit

/-- The law's World in memory: its six cells. -/
def WAt (w : World) (wb : Nat) (cs : Array Value) : Prop := w.heap[wb]? = some (.cells cs 45 (0, 0))
section
variable {w : World} {wb : Nat} {cs : Array Value}
theorem WAt.lt (h : WAt w wb cs) : wb < w.heap.size := (Array.getElem?_eq_some_iff.1 h).1
theorem WAt.cell (h : WAt w wb cs) (j : Nat) (v : Value) (hj : cs[j]? = some v) : w.cell? ⟨wb, j, none⟩ = some v := by
  rw [Lib.cell_of_heap h]; exact hj
theorem WAt.fz (h : WAt w wb cs) (i : Nat) : w.frozen? ⟨wb, i, none⟩ = false := Lib.frozen_of_heap h i
theorem WAt.set (h : WAt w wb cs) (j : Nat) (v : Value) : WAt (w.setCell ⟨wb, j, none⟩ v) wb (cs.setIfInBounds j v) := by
  unfold WAt at *
  simp [World.setCell, Array.getElem?_modify, h]
theorem WAt.keeps {X : Nat → Prop} {w' : World} (h : WAt w wb cs) (k : Keeps X w w') (hx : ¬ X wb) : WAt w' wb cs := by
  unfold WAt
  rw [k.block wb h.lt hx]; exact h
end

/-- Amid the writing of one group of four. -/
structure KInv (w : World) (X : Nat → Prop) (wb : Nat) (wr : World) (cs : Array Value) (E S : TypeId) (bs : Value) (ents : List Value) (mk : List Value) (us : List (Value × Nat)) : Prop where
  head : WAt wr wb cs
  row : wr.ownsRow 0 S 1 bs ents.length ents
  marks : ∀ u ∈ us, MarksK wr E mk u.1 u.2
  keeps : Keeps X w wr
  mineB : Mine X w.heap.size bs
  mineU : ∀ u ∈ us, Mine X w.heap.size u.1
section
variable {w wr : World} {X : Nat → Prop} {wb : Nat} {cs : Array Value} {E S : TypeId} {bs : Value} {ents mk : List Value} {us : List (Value × Nat)}
theorem KInv.later {wr' : World} (h : KInv w X wb wr cs E S bs ents mk us) (k : Keeps (fun _ => False) wr wr') : KInv w X wb wr' cs E S bs ents mk us :=
  ⟨h.head.keeps k id, ownsRow_keeps h.row k (fun _ hi => absurd hi id), fun u hu => ownsRow_keeps (h.marks u hu) k (fun _ hi => absurd hi id), h.keeps.trans (k.mono (fun _ hi => absurd hi id)), h.mineB, h.mineU⟩
theorem Keeps.mine {X : Nat → Prop} {w W w2 : World} {v : Value} (h : Keeps X w W) (hm : Mine X w.heap.size v) (hg : W.grownBy w2 v.ownBlock) : Keeps X w w2 := by
  have hk := Keeps.grown hg
  exact ⟨hk.os.trans h.os, hk.tape.trans h.tape, hk.output.trans h.output, Nat.le_trans h.size hk.size, fun i hi hX => (hk.block i (Nat.lt_of_lt_of_le hi h.size) (fun hv => by rcases hm i hv.symm with q | q; exact hX q; omega)).trans (h.block i hi hX)⟩
theorem KInv.mark {w2 : World} {o : Obj} {v v' : Value} {n m : Nat} (h : KInv w X wb wr cs E S bs ents mk us) (hEW : E ≠ 45) (hES : E ≠ S) (hv : MarksK wr E mk v n) (hmv : Mine X w.heap.size v) (hle : ∀ u ∈ us, u.2 ≤ n + m)
    (hv' : MarksK w2 E mk v' (n + m)) (hk : ∀ u k, MarksK (wr.alloc o) E mk u k → (u.ownBlock = v.ownBlock → k ≤ n + m) → MarksK w2 E mk u k) (hg : (wr.alloc o).grownBy w2 v.ownBlock)
    (hb : v'.ownBlock = v.ownBlock ∨ ∃ q, v'.ownBlock = some q ∧ (wr.alloc o).heap.size ≤ q) : KInv w X wb w2 cs E S bs ents mk (us ++ [(v', n + m)]) := by
  have hA := h.later ((Keeps.refl _ wr).alloc o)
  have hvA : MarksK (wr.alloc o) E mk v n := World.ownsRow.alloc hv o
  have hG := Keeps.grown hg
  have hrow : ∀ i, some i = v.ownBlock → ∀ c fz (e : TypeId), e ≠ E → (wr.alloc o).heap[i]? ≠ some (.cells c e fz) := by
    intro i hi c fz e he hc
    obtain ⟨c2, h2⟩ := ownsRow_isRow hvA hi.symm
    rw [h2] at hc
    simp at hc
    exact he hc.2.1.symm
  have hsz : w.heap.size ≤ (wr.alloc o).heap.size := hA.keeps.size
  refine ⟨hA.head.keeps hG (fun hi => hrow wb hi _ _ _ (fun e => hEW e.symm) hA.head), ownsRow_keeps hA.row hG (fun i hi c fz => hrow i hi c fz _ (fun e => hES e.symm)), ?_, hA.keeps.mine hmv hg, h.mineB, ?_⟩
  · intro u hu
    rcases List.mem_append.1 hu with hu | hu
    · exact hk u.1 u.2 (hA.marks u hu) (fun _ => hle u hu)
    · simp at hu
      subst hu
      exact hv'
  · intro u hu
    rcases List.mem_append.1 hu with hu | hu
    · exact h.mineU u hu
    · simp at hu
      subst hu
      intro i hi
      rcases hb with e | ⟨q, e, hq⟩
      · exact hmv i (e ▸ hi)
      · exact .inr ((Option.some.inj (e.symm.trans hi)) ▸ Nat.le_trans hsz hq)
theorem KInv.pushHead {w2 : World} {o : Obj} (h : KInv w X wb wr cs E S bs ents mk us) (hSW : S ≠ 45) (hg : (wr.alloc o).grownBy w2 bs.ownBlock) : WAt w2 wb cs := by
  have hA := h.later ((Keeps.refl _ wr).alloc o)
  refine hA.head.keeps (Keeps.grown hg) (fun hi => ?_)
  obtain ⟨c2, h2⟩ := ownsRow_isRow hA.row hi.symm
  have h3 := hA.head
  unfold WAt at h3
  rw [h2] at h3
  simp at h3
  exact hSW h3.2
theorem KInv.push {w2 : World} {o : Obj} {x bs' : Value} {N : Nat} (h : KInv w X wb wr cs E S bs ents mk us) (hX : X wb) (hSW : S ≠ 45) (hEW : E ≠ 45) (hES : E ≠ S)
    (hown : w2.ownsRow 0 S 1 bs' (ents.length + 1) (ents ++ [x])) (hg : (wr.alloc o).grownBy w2 bs.ownBlock) (hb : bs'.ownBlock = bs.ownBlock ∨ bs'.ownBlock = some N) (hN : w.heap.size ≤ N) (j : Nat) :
    KInv w X wb (w2.setCell ⟨wb, j, none⟩ bs') (cs.setIfInBounds j bs') E S bs' (ents ++ [x]) mk us := by
  have hA := h.later ((Keeps.refl _ wr).alloc o)
  have hG := Keeps.grown hg
  have hhd := h.pushHead hSW hg
  have hrow : ∀ i, some i = bs.ownBlock → ∀ c fz (e : TypeId), e ≠ S → (wr.alloc o).heap[i]? ≠ some (.cells c e fz) := by
    intro i hi c fz e he hc
    obtain ⟨c2, h2⟩ := ownsRow_isRow hA.row hi.symm
    rw [h2] at hc
    simp at hc
    exact he hc.2.1.symm
  have hne : ∀ i, i = wb → ∀ c fz (e : TypeId), e ≠ 45 → w2.heap[i]? ≠ some (.cells c e fz) := by
    intro i hi c fz e he hc
    subst hi
    unfold WAt at hhd
    rw [hhd] at hc
    simp at hc
    exact he hc.2.1.symm
  have k : Keeps (· = wb) w2 (w2.setCell ⟨wb, j, none⟩ bs') := (Keeps.refl _ w2).setB _ _
  refine ⟨hhd.set j bs', ?_, ?_, (hA.keeps.mine h.mineB hg).trans (k.mono (fun i hi => hi ▸ hX)), ?_, h.mineU⟩
  · rw [List.length_append]
    exact ownsRow_keeps hown k (fun i hi c fz => hne i hi c fz _ hSW)
  · intro u hu
    exact ownsRow_keeps (ownsRow_keeps (hA.marks u hu) hG (fun i hi c fz => hrow i hi c fz _ hES)) k (fun i hi c fz => hne i hi c fz _ hEW)
  · intro i hi
    rcases hb with e | e
    · exact h.mineB i (e ▸ hi)
    · exact .inr ((Option.some.inj (e.symm.trans hi)) ▸ hN)
end
end Go.Proofs.YtkalonhalhdlaaaGreatDoor
