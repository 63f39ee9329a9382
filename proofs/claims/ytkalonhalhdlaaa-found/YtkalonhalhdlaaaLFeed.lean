/-
  What one call of Feed does to a hunter, given a text of noughts and ones: what is told is in new memory, as in plain words (LPure: feedH); every block but the hunter's stands as it stood.
-/
import Derived.Test.YtkalonhalhdlaaaLHear2
namespace Go.Proofs.Ytkalonhalhdlaaa
open Go.RowKit

/-- What was told, with where its bytes lie. -/
abbrev Told := List ((Nat × List UInt8) × (Option Addr × Nat))
def toldCells : Told → List Value
  | [] => []
  | t :: r => .int .i64 t.1.1 :: .slice t.2.1 t.1.2.length t.2.2 :: toldCells r
theorem toldCells_length (t : Told) : (toldCells t).length = t.length * 2 := by
  induction t with
  | nil => rfl
  | cons x r ih => simp [toldCells, ih]; omega
theorem toldCells_append (a b : Told) : toldCells (a ++ b) = toldCells a ++ toldCells b := by
  induction a with
  | nil => rfl
  | cons x r ih => simp [toldCells, ih]
/-- A list of what was told, in memory from 'base' on. -/
def ToldAt (w : World) (base : Nat) (v : Value) (t : Told) : Prop :=
  w.ownsRow base 37 2 v t.length (toldCells t) ∧ ∀ x ∈ t, Bytes w base x.1 x.2.1 x.2.2

theorem Keeps.iterAt {X : Nat → Prop} {a w : World} (h : Keeps X a w) {k : Nat} (hk : a.heap.size ≤ k) (s : ByteArray) (pos : Nat) : Keeps X a (w.iterAt k s pos) :=
  ⟨h.os, h.tape, h.output, by rw [Lib.iterAt_size]; exact h.size, fun i hi hx => by rw [Lib.iterAt_other _ _ _ _ _ (by omega)]; exact h.block i hi hx⟩
theorem keeps_iterAt (w : World) (k : Nat) (s : ByteArray) (pos : Nat) : Keeps (· = k) w (w.iterAt k s pos) :=
  ⟨rfl, rfl, rfl, by rw [Lib.iterAt_size]; exact Nat.le_refl _, fun i _ hx => Lib.iterAt_other _ _ _ _ _ hx⟩
theorem ToldAt.keeps {X : Nat → Prop} {w w' : World} {base : Nat} {v : Value} {t : Told} (h : ToldAt w base v t) (hk : Keeps X w w') (hx : ∀ k, X k → ∀ c fz, w.heap[k]? ≠ some (.cells c 37 fz) ∧ w.heap[k]? ≠ some (.cells c 5 fz)) : ToldAt w' base v t :=
  ⟨ownsRow_keeps h.1 hk fun k hX c fz => (hx k hX c fz).1, fun x hm => ownsRow_keeps (h.2 x hm) hk fun k hX c fz => (hx k hX c fz).2⟩
theorem iter_keeps {X : Nat → Prop} {w w' : World} {k : Nat} {s : ByteArray} {pos : Nat} (h : w.heap[k]? = some (.stringIter s pos)) (hk : Keeps X w w') (hx : ¬ X k) : w'.heap[k]? = some (.stringIter s pos) := by
  rw [hk.block k (Array.getElem?_eq_some_iff.1 h).1 hx]; exact h

set_option maxHeartbeats 1000000 in
set_option maxRecDepth 100000 in
theorem onlyBits_txt (bs : List Bool) (w : World) :
    Calls Try.prog 15 #[.string ⟨(txt bs).toArray⟩] w fun e w' => e = .returned (.bool true) ∧ Below w.heap.size w w' := by
  have hsz0 := txt_size bs
  have hget := txt_get bs
  generalize (⟨(txt bs).toArray⟩ : ByteArray) = s at hsz0 hget
  have HZ : Hid (s.size = bs.length) := hsz0
  have HG : Hid (∀ k (h : k < bs.length) (h' : k < s.size), s[k]'h' = chr bs[k]) := hget
  clear hsz0 hget
  go_enter Try.func15, Try.ntmps15
  go_wp2
  go_loopw [] (fun wr => ∃ (pos : Nat), pos ≤ bs.length ∧ wr.heap[w.heap.size]? = some (.stringIter s pos) ∧ Below w.heap.size w wr) (fun wr => s.size - wr.iterPos w.heap.size)
  case atStart =>
    refine ⟨0, Nat.zero_le _, ?_, (Below.refl _ w).alloc (Nat.le_refl _) _⟩
    exact World.iter_heap w s 0
  case round =>
    obtain ⟨pos, hpos, hit, hbw⟩ := hrel
    by_cases hp : pos < bs.length
    · have hp' : pos < s.size := by rw [HZ.out]; exact hp
      have hb0 := HG.out pos hp hp'
      generalize bs[pos] = bit at hb0
      have hnx : ∀ ty, (Instr.next (.pointer (some ⟨w.heap.size, 0, none⟩)) true ty).run Try.prog wr = _ := fun ty => Lib.run_next_ascii_at wr w.heap.size s pos ty hit hp' (by rw [hb0]; cases bit <;> decide)
      rw [hb0] at hnx
      have hit2 := Lib.iterAt_heap wr w.heap.size s pos (pos + 1) hit
      have hbw2 := Lib.below_iterAt hbw (k := w.heap.size) (Nat.le_refl _) s (pos + 1)
      clear hb0 hp'
      cases bit
      · have e48 : (chr false).toNat = 48 := by decide
        rw [e48] at hnx
        clear e48
        go_wp2
        go_roundw
        case rel => exact ⟨pos + 1, by omega, hit2, hbw2⟩
        case measure =>
          simp only [World.iterPos, hit2, hit]
          have := HZ.out
          omega
      · have e49 : (chr true).toNat = 49 := by decide
        rw [e49] at hnx
        clear e49
        go_wp2
        go_roundw
        case rel => exact ⟨pos + 1, by omega, hit2, hbw2⟩
        case measure =>
          simp only [World.iterPos, hit2, hit]
          have := HZ.out
          omega
    · have hp' : ¬ pos < s.size := by rw [HZ.out]; exact hp
      have hnx : ∀ ty, (Instr.next (.pointer (some ⟨w.heap.size, 0, none⟩)) true ty).run Try.prog wr = _ := fun ty => Lib.run_next_end_at wr w.heap.size s pos ty hit hp'
      go_wp2
      go_ret
      exact ⟨rfl, hbw⟩
end Go.Proofs.Ytkalonhalhdlaaa
