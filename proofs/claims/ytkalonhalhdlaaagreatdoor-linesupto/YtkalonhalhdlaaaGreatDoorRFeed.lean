/-
  What one call of the reference hunter's Feed does, given a text of noughts and ones: as in the document's words (LMath: feedI).
-/
import Derived.Test.YtkalonhalhdlaaaGreatDoorRFound
import Derived.Test.YtkalonhalhdlaaaGreatDoorVHears
import Derived.Maps.AppendAt
namespace Go.Proofs.YtkalonhalhdlaaaGreatDoor
open Go.RowKit

theorem infoBool : (Tryz.prog.info? 4).map (fun i => (i.zero, i.size, i.bytes)) = some (some (.bool false), 1, 1) := by kernel_rfl

/-- The reference's hunter in memory. -/
def RHead (w : World) (rb : Nat) (on : Bool) (cnt : Nat) (v : Value) : Prop := w.heap[rb]? = some (.cells #[.bool on, .int .i64 (cnt : Int), v] 72 (0, 0))
section
variable {w wr : World} {rb : Nat} {on : Bool} {cnt : Nat} {v : Value}
theorem RHead.lt (h : RHead w rb on cnt v) : rb < w.heap.size := (Array.getElem?_eq_some_iff.1 h).1
theorem RHead.c0 (h : RHead w rb on cnt v) : w.cell? ⟨rb, 0, none⟩ = some (.bool on) := by rw [Lib.cell_of_heap h]; rfl
theorem RHead.c1 (h : RHead w rb on cnt v) : w.cell? ⟨rb, 1, none⟩ = some (.int .i64 (cnt : Int)) := by rw [Lib.cell_of_heap h]; rfl
theorem RHead.c2 (h : RHead w rb on cnt v) : w.cell? ⟨rb, 2, none⟩ = some v := by rw [Lib.cell_of_heap h]; rfl
theorem RHead.fz (h : RHead w rb on cnt v) (i : Nat) : w.frozen? ⟨rb, i, none⟩ = false := Lib.frozen_of_heap h i
theorem RHead.set0 (h : RHead w rb on cnt v) (b : Bool) : RHead (w.setCell ⟨rb, 0, none⟩ (.bool b)) rb b cnt v := by
  unfold RHead at *
  simp [World.setCell, Array.getElem?_modify, h]
theorem RHead.set1 (h : RHead w rb on cnt v) (n : Nat) : RHead (w.setCell ⟨rb, 1, none⟩ (.int .i64 (n : Int))) rb on n v := by
  unfold RHead at *
  simp [World.setCell, Array.getElem?_modify, h]
theorem RHead.set2 (h : RHead w rb on cnt v) (u : Value) : RHead (w.setCell ⟨rb, 2, none⟩ u) rb on cnt u := by
  unfold RHead at *
  simp [World.setCell, Array.getElem?_modify, h]
theorem RHead.keeps {X : Nat → Prop} {w' : World} (h : RHead w rb on cnt v) (k : Keeps X w w') (hx : ¬ X rb) : RHead w' rb on cnt v := by
  unfold RHead
  rw [k.block rb h.lt hx]; exact h
end

/-- Amid a Feed: the hunter, its bits, what is told. -/
structure RInv (w : World) (X : Nat → Prop) (rb : Nat) (wr : World) (vo : Value) (on : Bool) (cnt : Nat) (has : List Bool) (v : Value) (ts : Told) : Prop where
  head : RHead wr rb on cnt v
  row : wr.ownsRow 0 4 1 v has.length (has.map Value.bool)
  told : ToldAt wr w.heap.size vo ts
  keeps : Keeps X w wr
  mine : Mine X w.heap.size v
section
variable {w wr : World} {X : Nat → Prop} {rb : Nat} {vo : Value} {on : Bool} {cnt : Nat} {has : List Bool} {v : Value} {ts : Told}
theorem RInv.turn {wr' : World} (h : RInv w X rb wr vo on cnt has v ts) (k : Keeps (· = rb) wr wr') (hx : X rb) {on' : Bool} {cnt' : Nat} (hd : RHead wr' rb on' cnt' v) : RInv w X rb wr' vo on' cnt' has v ts := by
  have hne : ∀ i, i = rb → ∀ c fz (e : TypeId), e ≠ 72 → wr.heap[i]? ≠ some (.cells c e fz) := by
    intro i hi c fz e he hc
    subst hi
    rw [h.head] at hc
    simp at hc
    exact he hc.2.1.symm
  exact ⟨hd, ownsRow_keeps h.row k (fun i hi c fz => hne i hi c fz _ (by decide)), h.told.keeps k (fun i hi c fz => ⟨hne i hi c fz _ (by decide), hne i hi c fz _ (by decide)⟩), h.keeps.trans (k.mono (fun i hi => hi ▸ hx)), h.mine⟩
theorem RInv.set1 (h : RInv w X rb wr vo on cnt has v ts) (hx : X rb) (n : Nat) : RInv w X rb (wr.setCell ⟨rb, 1, none⟩ (.int .i64 (n : Int))) vo on n has v ts :=
  h.turn ((Keeps.refl _ wr).setB _ _) hx (h.head.set1 n)
theorem RInv.set0 (h : RInv w X rb wr vo on cnt has v ts) (hx : X rb) (b : Bool) : RInv w X rb (wr.setCell ⟨rb, 0, none⟩ (.bool b)) vo b cnt has v ts :=
  h.turn ((Keeps.refl _ wr).setB _ _) hx (h.head.set0 b)
theorem RInv.setNil (h : RInv w X rb wr vo on cnt has v ts) (hx : X rb) : RInv w X rb (wr.setCell ⟨rb, 2, none⟩ (.slice none 0 0)) vo on cnt [] (.slice none 0 0) ts := by
  have hne : ∀ i, i = rb → ∀ c fz (e : TypeId), e ≠ 72 → wr.heap[i]? ≠ some (.cells c e fz) := by
    intro i hi c fz e he hc
    subst hi
    rw [h.head] at hc
    simp at hc
    exact he hc.2.1.symm
  have k : Keeps (· = rb) wr (wr.setCell ⟨rb, 2, none⟩ (.slice none 0 0)) := (Keeps.refl _ wr).setB _ _
  exact ⟨h.head.set2 _, World.ownsRow_nil _ _ _ _, h.told.keeps k (fun i hi c fz => ⟨hne i hi c fz _ (by decide), hne i hi c fz _ (by decide)⟩), h.keeps.trans (k.mono (fun i hi => hi ▸ hx)), Mine.nil _ _⟩
theorem RInv.later {wr' : World} (h : RInv w X rb wr vo on cnt has v ts) (k : Keeps (fun _ => False) wr wr') : RInv w X rb wr' vo on cnt has v ts :=
  ⟨h.head.keeps k id, ownsRow_keeps h.row k (fun _ hi => absurd hi id), h.told.keeps k (fun _ hi => absurd hi id), h.keeps.trans (k.mono (fun _ hi => absurd hi id)), h.mine⟩
theorem RInv.push {w2 : World} {o : Obj} {b : Bool} {v' : Value} (h : RInv w X rb wr vo on cnt has v ts) (hx : X rb)
    (hown : w2.ownsRow 0 4 1 v' (has.length + 1) (has.map Value.bool ++ [Value.bool b])) (hg : (wr.alloc o).grownBy w2 v.ownBlock) {N : Nat} (hb : v'.ownBlock = v.ownBlock ∨ v'.ownBlock = some N) (hN : w.heap.size ≤ N) :
    RInv w X rb (w2.setCell ⟨rb, 2, none⟩ v') vo on cnt (has ++ [b]) v' ts := by
  have hA := h.later ((Keeps.refl _ wr).alloc o)
  have hsz : w.heap.size ≤ (wr.alloc o).heap.size := hA.keeps.size
  have hk := Keeps.grown hg
  have hrow : ∀ i, some i = v.ownBlock → ∀ c fz (e : TypeId), e ≠ 4 → (wr.alloc o).heap[i]? ≠ some (.cells c e fz) := by
    intro i hi c fz e he hc
    obtain ⟨c2, h2⟩ := ownsRow_isRow hA.row hi.symm
    rw [h2] at hc
    simp at hc
    exact he hc.2.1.symm
  have hhd : RHead w2 rb on cnt v := hA.head.keeps hk (fun hi => hrow rb hi _ _ _ (by decide) hA.head)
  have hne : ∀ i, i = rb → ∀ c fz (e : TypeId), e ≠ 72 → w2.heap[i]? ≠ some (.cells c e fz) := by
    intro i hi c fz e he hc
    subst hi
    rw [hhd] at hc
    simp at hc
    exact he hc.2.1.symm
  have k : Keeps (· = rb) w2 (w2.setCell ⟨rb, 2, none⟩ v') := (Keeps.refl _ w2).setB _ _
  have hK2 : Keeps X w w2 := ⟨hk.os.trans hA.keeps.os, hk.tape.trans hA.keeps.tape, hk.output.trans hA.keeps.output, Nat.le_trans hA.keeps.size hk.size, fun i hi hX => (hk.block i (Nat.lt_of_lt_of_le hi hsz) (fun hv => by rcases hA.mine i hv.symm with q | q; exact hX q; omega)).trans (hA.keeps.block i hi hX)⟩
  have hT2 := hA.told.keeps hk (fun i hi c fz => ⟨hrow i hi c fz _ (by decide), hrow i hi c fz _ (by decide)⟩)
  refine ⟨hhd.set2 _, ?_, hT2.keeps k (fun i hi c fz => ⟨hne i hi c fz _ (by decide), hne i hi c fz _ (by decide)⟩), hK2.trans (k.mono (fun i hi => hi ▸ hx)), ?_⟩
  · rw [List.length_append, List.map_append]
    exact ownsRow_keeps hown k (fun i hi c fz => hne i hi c fz _ (by decide))
  · intro i hi
    rcases hb with e | e
    · exact hA.mine i (e ▸ hi)
    · exact .inr ((Option.some.inj (e.symm.trans hi)) ▸ hN)
theorem RInv.pushHead {w2 : World} {o : Obj} (h : RInv w X rb wr vo on cnt has v ts) (hg : (wr.alloc o).grownBy w2 v.ownBlock) : RHead w2 rb on cnt v := by
  have hA := h.later ((Keeps.refl _ wr).alloc o)
  refine hA.head.keeps (Keeps.grown hg) (fun hi => ?_)
  obtain ⟨c2, h2⟩ := ownsRow_isRow hA.row hi.symm
  have h3 := hA.head
  unfold RHead at h3
  rw [h2] at h3
  simp at h3
theorem RInv.seg (h : RInv w X rb wr vo on cnt has v ts) (h0 : 0 < has.length) : ∃ g cap, v = .slice (some ⟨g, 0, none⟩) has.length cap ∧ g < wr.heap.size ∧ has.length ≤ cap ∧ SegB wr g has := by
  rcases h.row.2 with ⟨_, hn⟩ | ⟨g, cap, cur, hv, _, hg, hc, _, hs, ht⟩
  · omega
  · refine ⟨g, cap, hv, (Array.getElem?_eq_some_iff.1 hg).1, hc, ?_⟩
    intro i hi
    have q : (cur.toList.take (has.length * 1))[i]? = (has.map Value.bool)[i]? := by rw [ht]
    rw [Lib.cell_of_heap hg]
    simp [hi] at q
    simp [q, List.getD, hi]
theorem RInv.length (h : RInv w X rb wr vo on cnt has v ts) : ∃ p cap, v = .slice p has.length cap := by
  rcases h.row.2 with ⟨hv, hn⟩ | ⟨g, cap, cur, hv, _⟩
  · exact ⟨_, _, by rw [hv, hn]⟩
  · exact ⟨_, _, hv⟩
theorem RInv.tell {w2 : World} {o : Obj} {B : Nat} {f : Nat × List UInt8} {p : Option Addr} {cap : Nat} {vo' : Value} (h : RInv w X rb wr vo on cnt has v ts) (hby : Bytes wr B f p cap) (hB : w.heap.size ≤ B)
    (hown : w2.ownsRow w.heap.size 65 2 vo' (ts.length + 1) (toldCells ts ++ [.int .i64 f.1, .slice p f.2.length cap])) (hg : (wr.alloc o).grownBy w2 vo.ownBlock) :
    RInv w X rb w2 vo' on cnt has v (ts ++ [(f, (p, cap))]) := by
  have hk0 : Keeps (fun _ => False) wr (wr.alloc o) := (Keeps.refl _ wr).alloc o
  have hA := h.later hk0
  have hsz : w.heap.size ≤ (wr.alloc o).heap.size := hA.keeps.size
  have hk := Keeps.grown hg
  have hrow : ∀ i, some i = vo.ownBlock → ∀ c fz (e : TypeId), e ≠ 65 → (wr.alloc o).heap[i]? ≠ some (.cells c e fz) := by
    intro i hi c fz e he hc
    obtain ⟨c2, h2⟩ := ownsRow_isRow hA.told.1 hi.symm
    rw [h2] at hc
    simp at hc
    exact he hc.2.1.symm
  have hnew : ∀ i, some i = vo.ownBlock → w.heap.size ≤ i := fun i hi => (World.ownsRow.lt hA.told.1 i hi.symm).1
  have carry : ∀ {x : Nat × List UInt8} {q : Option Addr} {c b0 : Nat}, Bytes wr b0 x q c → Bytes w2 b0 x q c := fun hx =>
    ownsRow_keeps (ownsRow_keeps hx hk0 (fun _ h => absurd h id)) hk (fun i hi c fz => hrow i hi c fz _ (by decide))
  refine ⟨hA.head.keeps hk (fun hi => hrow rb hi _ _ _ (by decide) hA.head), ownsRow_keeps hA.row hk (fun i hi c fz => hrow i hi c fz _ (by decide)), ⟨?_, ?_⟩, ?_, h.mine⟩
  · rw [toldCells_append, List.length_append]
    exact hown
  · intro x hx
    rcases List.mem_append.1 hx with hx | hx
    · exact carry (h.told.2 x hx)
    · simp at hx
      subst hx
      exact ownsRow_mono (carry hby) hB
  · exact hA.keeps.transNew hk hnew
end
end Go.Proofs.YtkalonhalhdlaaaGreatDoor
