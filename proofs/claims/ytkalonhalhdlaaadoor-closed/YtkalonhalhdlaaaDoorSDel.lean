/-
  slices.Delete at a list of lists of bytes; bytes.Clone: the library's contracts at this program's numbers.
-/
import Derived.Shelf.SlicesE.Delete
import Derived.Shelf.Bytes.SlClone
import Derived.Test.YtkalonhalhdlaaaDoorSSends
namespace Go.Proofs
open Go.Shelf
def Tryd.laysSlE45_ren : Go.Shelf.Ren := ⟨fun | 45 => 92 | n => n, fun | 0 => 0 | 3 => 3 | 4 => 4 | 22 => 46 | 23 => 22 | n => n, fun | n => n⟩
theorem Tryd.laysSlE45 : Go.Proofs.SlLaysE.n45 Tryd.prog Tryd.laysSlE45_ren := {
  mixed := by kernel_rfl
  f45 := ⟨ "slices.Delete[[][]byte,[]byte]", by decide, Tryd.func92.trans (congrArg some (by kernel_rfl))⟩
  t0 := Tryd.underlying0
  a0 := Tryd.isAgg0
  z0 := Tryd.sizeOf0
  v0 := Tryd.zeroValue0
  t3 := Tryd.underlying3
  a3 := Tryd.isAgg3
  z3 := Tryd.sizeOf3
  v3 := Tryd.zeroValue3
  t4 := Tryd.underlying4
  a4 := Tryd.isAgg4
  z4 := Tryd.sizeOf4
  v4 := Tryd.zeroValue4
  t22 := Tryd.underlying46
  a22 := Tryd.isAgg46
  z22 := Tryd.sizeOf46
  v22 := Tryd.zeroValue46
  a23 := Tryd.isAgg22
  z23 := Tryd.sizeOf22 }
end Go.Proofs
namespace Go.Proofs.YtkalonhalhdlaaaDoor
open Go.RowKit

/-- A slice's three words. -/
def encS (x : Option Addr × Nat × Nat) : Value := .slice x.1 x.2.1 x.2.2
theorem encS_list : ∀ ents : List Value, (∀ x ∈ ents, ∃ p n c, x = .slice p n c) → ∃ ds : List (Option Addr × Nat × Nat), ents = ds.map encS := by
  intro ents
  induction ents with
  | nil => exact fun _ => ⟨[], rfl⟩
  | cons x r ih =>
    intro h
    obtain ⟨ds, hd⟩ := ih (fun y hy => h y (List.mem_cons_of_mem _ hy))
    obtain ⟨p, n, c, rfl⟩ := h x List.mem_cons_self
    exact ⟨(p, n, c) :: ds, by rw [hd]; rfl⟩

theorem delete_any (g n cap L : Nat) (ents : List Value) (w : World) (hr : w.ownsRow 0 22 1 (.slice (some ⟨g, 0, none⟩) L cap) L ents) (hs : ∀ x ∈ ents, ∃ p n c, x = .slice p n c) (hn : n ≤ L) :
    Calls Tryd.prog 92 #[.slice (some ⟨g, 0, none⟩) L cap, .int .i64 0, .int .i64 n] w fun e w' => e = .returned (.slice (some ⟨g, 0, none⟩) (L - n) cap) ∧ w'.ownsRow 0 22 1 (.slice (some ⟨g, 0, none⟩) (L - n) cap) (L - n) (ents.drop n) ∧ Keeps (· = g) w w' := by
  obtain ⟨ds, rfl⟩ := encS_list ents hs
  have hlen : ds.length = L := by have := hr.1; simpa using this
  obtain ⟨cur, hg, hc1, hc2, hc3, ht⟩ : ∃ cur, w.heap[g]? = some (.cells cur 22 (0, 0)) ∧ L ≤ cap ∧ cap ≤ maxLen ∧ cur.size = cap * 1 ∧ cur.toList.take (L * 1) = ds.map encS := by
    rcases hr.2 with ⟨h1, _⟩ | ⟨g', cap', cur, h1, _, h2, h3, h4, h5, h6⟩
    · cases h1
    · simp only [Value.slice.injEq, Option.some.injEq, Addr.mk.injEq, and_true, true_and] at h1
      obtain ⟨rfl, rfl⟩ := h1
      exact ⟨cur, h2, h3, h4, h5, h6⟩
  have hH : Sort.Holds encS w g 0 ds.toArray := by
    intro j hj
    have hj' : j < L := by simpa [hlen] using hj
    refine ⟨?_, Lib.frozen_of_heap hg _⟩
    have := hr.cellAt j (by omega)
    rw [Nat.zero_add, this]
    simp [hlen, hj']
  obtain ⟨i0, hi0, hz0, hz1, hz2⟩ := info_parts infoBytesS
  have hD := AnyE.slices_Delete Tryd.laysSlE45 encS (fun _ => rfl) (none, 0, 0) Tryd.zeroValue22 i0 hi0 hz1 g 0 cap 0 n ds.toArray w hH (by simpa [hlen] using hc1) (by unfold maxLen at hc2; omega) (Nat.zero_le _) (by simpa [hlen] using hn)
  have e1 : ds.toArray.size = L := by simpa using hlen
  rw [e1] at hD
  refine hD.mono ?_
  rintro e w' ⟨rfl, k, rfl⟩
  generalize hd : (ds.toArray.toList.take 0 ++ ds.toArray.toList.drop n ++ List.replicate (n - 0) (none, 0, 0)).toArray = d
  have hdl : d.size = L := by rw [← hd]; simp; omega
  have hget : ∀ j, j < L - n → d[j]! = (ds.drop n).getD j (none, 0, 0) := by
    intro j hj
    rw [← hd]
    simp [List.getElem?_append, List.getD, show j < ds.length - n by omega]
  have hg2 : (Sort.putRow encS (Sort.ahead w k) g 0 d).heap[g]? = some (.cells (Sort.putCells encS 0 d cur) 22 (0, 0)) := by
    simp [Sort.putRow, Sort.mapBlock, Array.getElem?_modify, Sort.ahead, hg, Sort.onCells]
  have hother : ∀ j, j ≠ g → (Sort.putRow encS (Sort.ahead w k) g 0 d).heap[j]? = w.heap[j]? := by
    intro j hj
    simp [Sort.putRow, Sort.mapBlock, Array.getElem?_modify, Sort.ahead, show ¬ g = j from fun e => hj e.symm]
  refine ⟨rfl, ⟨by simp [hlen], .inr ⟨g, cap, _, rfl, Nat.zero_le _, hg2, by omega, hc2, by simp [Sort.putCells, hc3], ?_⟩⟩, ⟨rfl, rfl, rfl, by simp [Sort.ahead], fun j _ hj => hother j hj⟩⟩
  apply List.ext_getElem?
  intro j
  rw [Nat.mul_one, List.getElem?_take]
  by_cases hj : j < L - n
  · rw [if_pos hj]
    have h1 : j < cur.size := by omega
    have h2 : j < d.size := by omega
    have h3 : n + j < ds.length := by omega
    have h4 := hget j hj
    have h5 : d[j] = ds[n + j] := by
      have e1 : d[j]! = d[j] := getElem!_pos d j h2
      rw [← e1, h4]
      simp [List.getD, h3]
    simp [Sort.putCells, h1, h2, h5, h3, List.getElem?_drop]
  · rw [if_neg hj]
    symm
    rw [List.getElem?_eq_none_iff]
    simp [hlen]
    omega
end Go.Proofs.YtkalonhalhdlaaaDoor
