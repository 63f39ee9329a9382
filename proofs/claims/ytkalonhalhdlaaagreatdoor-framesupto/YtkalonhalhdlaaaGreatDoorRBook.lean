/-
  The book of lists that came out, in memory; what one step of its writing does.
-/
import Derived.Test.YtkalonhalhdlaaaGreatDoorRMarks
namespace Go.Proofs.YtkalonhalhdlaaaGreatDoor
open Go.RowKit

/-- The law's World in memory: its six cells. -/
def WAt (w : World) (wb : Nat) (cs : Array Value) : Prop := w.heap[wb]? = some (.cells cs 45 (0, 0))
section
variable {w : World} {wb : Nat} {cs : Array Value}
theorem WAt.lt (h : WAt w wb cs) : wb < w.heap.size := (Array.getElem?_eq_some_iff.1 h).1
theorem WAt.cell (h : WAt w wb cs) (j : Nat) (v : Value) (hj : cs[j]? = some v) : w.cell? ⟨wb, j, none⟩ = some v := by
  rw [Lib.cell_of_heap h]; exact hj
theorem WAt.fz (h : WAt w wb cs) (i : Nat) : w.frozen? ⟨wb, i, none⟩ = false := Lib.frozen_of_heap h i
theorem WAt.set (h : WAt w wb cs) (j : Nat) (v : Value) : WAt (w.setCell ⟨wb, j, none⟩ v) wb (cs.setIfInBounds j v) := by
  unfold WAt at *
  simp [World.setCell, Array.getElem?_modify, h]
theorem WAt.keeps {X : Nat → Prop} {w' : World} (h : WAt w wb cs) (k : Keeps X w w') (hx : ¬ X wb) : WAt w' wb cs := by
  unfold WAt
  rw [k.block wb h.lt hx]; exact h
end

/-- Amid the writing of one group of four. -/
structure KInv (w : World) (X : Nat → Prop) (wb : Nat) (wr : World) (cs : Array Value) (E S : TypeId) (bs : Value) (ents : List Value) (mk : List Value) (us : List (Value × Nat)) : Prop where
  head : WAt wr wb cs
  row : wr.ownsRow 0 S 1 bs ents.length ents
  marks : ∀ u ∈ us, MarksK wr E mk u.1 u.2
  keeps : Keeps X w wr
  mineB : Mine X w.heap.size bs
  mineU : ∀ u ∈ us, Mine X w.heap.size u.1
section
variable {w wr : World} {X : Nat → Prop} {wb : Nat} {cs : Array Value} {E S : TypeId} {bs : Value} {ents mk : List Value} {us : List (Value × Nat)}
theorem KInv.later {wr' : World} (h : KInv w X wb wr cs E S bs ents mk us) (k : Keeps (fun _ => False) wr wr') : KInv w X wb wr' cs E S bs ents mk us :=
  ⟨h.head.keeps k id, ownsRow_keeps h.row k (fun _ hi => absurd hi id), fun u hu => ownsRow_keeps (h.marks u hu) k (fun _ hi => absurd hi id), h.keeps.trans (k.mono (fun _ hi => absurd hi id)), h.mineB, h.mineU⟩
theorem Keeps.mine {X : Nat → Prop} {w W w2 : World} {v : Value} (h : Keeps X w W) (hm : Mine X w.heap.size v) (hg : W.grownBy w2 v.ownBlock) : Keeps X w w2 := by
  have hk := Keeps.grown hg
  exact ⟨hk.os.trans h.os, hk.tape.trans h.tape, hk.output.trans h.output, Nat.le_trans h.size hk.size, fun i hi hX => (hk.block i (Nat.lt_of_lt_of_le hi h.size) (fun hv => by rcases hm i hv.symm with q | q; exact hX q; omega)).trans (h.block i hi hX)⟩
theorem KInv.mark {w2 : World} {o : Obj} {v v' : Value} {n m : Nat} (h : KInv w X wb wr cs E S bs ents mk us) (hEW : E ≠ 45) (hES : E ≠ S) (hv : MarksK wr E mk v n) (hmv : Mine X w.heap.size v) (hle : ∀ u ∈ us, u.2 ≤ n + m)
    (hv' : MarksK w2 E mk v' (n + m)) (hk : ∀ u k, MarksK (wr.alloc o) E mk u k → (u.ownBlock = v.ownBlock → k ≤ n + m) → MarksK w2 E mk u k) (hg : (wr.alloc o).grownBy w2 v.ownBlock)
    (hb : v'.ownBlock = v.ownBlock ∨ ∃ q, v'.ownBlock = some q ∧ (wr.alloc o).heap.size ≤ q) : KInv w X wb w2 cs E S bs ents mk (us ++ [(v', n + m)]) := by
  have hA := h.later ((Keeps.refl _ wr).alloc o)
  have hvA : MarksK (wr.alloc o) E mk v n := World.ownsRow.alloc hv o
  have hG := Keeps.grown hg
  have hrow : ∀ i, some i = v.ownBlock → ∀ c fz (e : TypeId), e ≠ E → (wr.alloc o).heap[i]? ≠ some (.cells c e fz) := by
    intro i hi c fz e he hc
    obtain ⟨c2, h2⟩ := ownsRow_isRow hvA hi.symm
    rw [h2] at hc
    simp at hc
    exact he hc.2.1.symm
  have hsz : w.heap.size ≤ (wr.alloc o).heap.size := hA.keeps.size
  refine ⟨hA.head.keeps hG (fun hi => hrow wb hi _ _ _ (fun e => hEW e.symm) hA.head), ownsRow_keeps hA.row hG (fun i hi c fz => hrow i hi c fz _ (fun e => hES e.symm)), ?_, hA.keeps.mine hmv hg, h.mineB, ?_⟩
  · intro u hu
    rcases List.mem_append.1 hu with hu | hu
    · exact hk u.1 u.2 (hA.marks u hu) (fun _ => hle u hu)
    · simp at hu
      subst hu
      exact hv'
  · intro u hu
    rcases List.mem_append.1 hu with hu | hu
    · exact h.mineU u hu
    · simp at hu
      subst hu
      intro i hi
      rcases hb with e | ⟨q, e, hq⟩
      · exact hmv i (e ▸ hi)
      · exact .inr ((Option.some.inj (e.symm.trans hi)) ▸ Nat.le_trans hsz hq)
theorem KInv.pushHead {w2 : World} {o : Obj} (h : KInv w X wb wr cs E S bs ents mk us) (hSW : S ≠ 45) (hg : (wr.alloc o).grownBy w2 bs.ownBlock) : WAt w2 wb cs := by
  have hA := h.later ((Keeps.refl _ wr).alloc o)
  refine hA.head.keeps (Keeps.grown hg) (fun hi => ?_)
  obtain ⟨c2, h2⟩ := ownsRow_isRow hA.row hi.symm
  have h3 := hA.head
  unfold WAt at h3
  rw [h2] at h3
  simp at h3
  exact hSW h3.2
theorem KInv.push {w2 : World} {o : Obj} {x bs' : Value} {N : Nat} (h : KInv w X wb wr cs E S bs ents mk us) (hX : X wb) (hSW : S ≠ 45) (hEW : E ≠ 45) (hES : E ≠ S)
    (hown : w2.ownsRow 0 S 1 bs' (ents.length + 1) (ents ++ [x])) (hg : (wr.alloc o).grownBy w2 bs.ownBlock) (hb : bs'.ownBlock = bs.ownBlock ∨ bs'.ownBlock = some N) (hN : w.heap.size ≤ N) (j : Nat) :
    KInv w X wb (w2.setCell ⟨wb, j, none⟩ bs') (cs.setIfInBounds j bs') E S bs' (ents ++ [x]) mk us := by
  have hA := h.later ((Keeps.refl _ wr).alloc o)
  have hG := Keeps.grown hg
  have hhd := h.pushHead hSW hg
  have hrow : ∀ i, some i = bs.ownBlock → ∀ c fz (e : TypeId), e ≠ S → (wr.alloc o).heap[i]? ≠ some (.cells c e fz) := by
    intro i hi c fz e he hc
    obtain ⟨c2, h2⟩ := ownsRow_isRow hA.row hi.symm
    rw [h2] at hc
    simp at hc
    exact he hc.2.1.symm
  have hne : ∀ i, i = wb → ∀ c fz (e : TypeId), e ≠ 45 → w2.heap[i]? ≠ some (.cells c e fz) := by
    intro i hi c fz e he hc
    subst hi
    unfold WAt at hhd
    rw [hhd] at hc
    simp at hc
    exact he hc.2.1.symm
  have k : Keeps (· = wb) w2 (w2.setCell ⟨wb, j, none⟩ bs') := (Keeps.refl _ w2).setB _ _
  refine ⟨hhd.set j bs', ?_, ?_, (hA.keeps.mine h.mineB hg).trans (k.mono (fun i hi => hi ▸ hX)), ?_, h.mineU⟩
  · rw [List.length_append]
    exact ownsRow_keeps hown k (fun i hi c fz => hne i hi c fz _ hSW)
  · intro u hu
    exact ownsRow_keeps (ownsRow_keeps (hA.marks u hu) hG (fun i hi c fz => hrow i hi c fz _ hES)) k (fun i hi c fz => hne i hi c fz _ hEW)
  · intro i hi
    rcases hb with e | e
    · exact h.mineB i (e ▸ hi)
    · exact .inr ((Option.some.inj (e.symm.trans hi)) ▸ hN)
end
end Go.Proofs.YtkalonhalhdlaaaGreatDoor
