/-
  What one call of Read does where the frame may be read.
-/
import Derived.Test.YtkalonhalhdlaaaGreatDoorFRead3
import Derived.Deep.RegionLaw
import Derived.Deep.AppendLies
namespace Go.Proofs.YtkalonhalhdlaaaGreatDoor
open Go.RowKit

theorem rowType : Tryz.prog.underlying 28 = some (.slice (Tryz.prog.elem 28)) := by kernel_rfl
/-- Where the rest of a list lies: a rest without any room stays at the list's head. -/
def tailOff (off c cb : Nat) : Nat := if c = 1 + cb then off else off + (1 + cb)
theorem slice_tail (b off n c cb : Nat) (h : cb ≤ n) (w : World) :
    (Instr.sliceAt 28 (.slice (some ⟨b, off, none⟩) (n + 1) c) (some (.int .i64 (1 + (cb : Int)))) none none).run Tryz.prog w = .ok (.slice (some ⟨b, tailOff off c cb, none⟩) (n - cb) (c - (1 + cb))) w := by
  rw [run_sliceAt_slice w 28 _ _ _ _ rowType, run_slice_l w 28 _ _ _ rowType .i64 _ (by omega) (by omega)]
  have e : Tryz.prog.elem 28 = 5 := by kernel_rfl
  have e2 : (1 + (cb : Int)).toNat = 1 + cb := by omega
  have e3 : n + 1 - (1 + cb) = n - cb := by omega
  rw [e, e2]
  by_cases hc : c = 1 + cb
  · simp [go_sem, tailOff, hc, e3]
  · simp [go_sem, tailOff, hc, e3]

set_option maxHeartbeats 2000000 in
set_option maxRecDepth 100000 in
theorem read_ok (m k cb b off c len : Nat) (x : UInt8) (r : List UInt8) (w : World) (hm : m = 8 ∨ m = 128) (hk : 1 ≤ k) (hk9 : k ≤ 9) (hcb : cbN m k = cb) (hn : cb ≤ r.length) (hi : infoF m k (r.length - cb : Nat) = true) (h63 : r.length ≤ 1048576) (hc : r.length + 1 ≤ c) (hc63 : c ≤ 9223372036854775807)
    (hseg : Seg w b off (x :: r)) (hb : b < w.heap.size) (hlen : len = r.length + 1)
    (hK : ∀ o, Calls Tryz.prog 83 #[.int .i64 m, .slice (some ⟨b, off, none⟩) len c] (w.alloc o) fun r w' => r = .returned (.tuple #[.int .i64 (k : Nat), .int .i64 0]) ∧ ∃ n, w' = (w.drewN n).alloc o) :
    Calls Tryz.prog 35 #[.int .i64 m, .slice (some ⟨b, off, none⟩) len c] w fun e w' => ∃ q cp, e = .returned (.tuple #[.agg #[.int .i64 (x.toNat : Int), .int .i64 k, .bool (ctlF m k r).p, .int .i64 (ctlF m k r).ns, .int .i64 (ctlF m k r).nr, .slice q (r.length - cb) cp], .int .i64 0]) ∧ w'.ownsRow w.heap.size 5 1 (.slice q (r.length - cb) cp) (r.length - cb) (Lib.byteCells (r.drop cb)) ∧ Below w.heap.size w w' := by
  subst hlen
  obtain ⟨i0, hi0, hz0, hz1', hz2'⟩ := info_parts infoByte
  have c1 := fun w => controlBytes_any m k hk w
  have c2 := fun w => infoFits_any m k (r.length - cb : Nat) w
  rw [hcb] at c1
  rw [hi] at c2
  have hcb2 : cb ≤ 2 := by rw [← hcb]; unfold cbN; split <;> omega
  have hlt : decide ((r.length : Int) + 1 < 1 + (cb : Int)) = false := decide_eq_false (by omega)
  have hsub : ((r.length - cb : Nat) : Int) = (r.length : Int) + 1 - (1 + (cb : Int)) := by omega
  rw [hsub] at c2
  have HK := hide hK
  clear hK
  go_enter Tryz.func35, Tryz.ntmps35
  go_wp2_with fail
  refine (unhide HK _).mono ?_
  clear HK
  rintro e W1 ⟨rfl, nd, rfl⟩
  obtain ⟨W0, hW0⟩ : ∃ W0, W0 = w.drewN nd := ⟨_, rfl⟩
  have hb0 : Below w.heap.size w W0 := by rw [hW0]; exact below_drewN (Below.refl w.heap.size w) _
  have hs0 : w.heap.size = W0.heap.size := by rw [hW0]; rfl
  rw [← hW0, hs0]
  clear hW0
  go_wp2_with fail
  refine (c1 _).mono ?_
  rintro e W1 ⟨rfl, rfl⟩
  go_wp2_with fail
  refine (c2 _).mono ?_
  rintro e W1 ⟨rfl, rfl⟩
  have hcb1 : 1 ≤ cb := by rw [← hcb]; unfold cbN; split <;> omega
  have hc1 : ¬ c = 1 := by omega
  have hbb : b < W0.heap.size := by omega
  have hs0w : Seg W0 b off (x :: r) := hseg.below hb0 hb
  have hA := fun o => (Below.refl W0.heap.size W0).alloc (Nat.le_refl _) o
  have hsr : Seg W0 b (off + 1) r := by
    intro i hi
    have := hs0w (i + 1) (by simp; omega)
    simpa [Nat.add_assoc, Nat.add_comm 1 i] using this
  have hx0 : W0.cell? ⟨b, off, none⟩ = some (.int .u8 (x.toNat : Int)) := by simpa using hs0w 0 (by simp)
  have hRC := fun o => readControl_any m k b (off + 1) cb (c - 1) r (W0.alloc o) hm hk hk9 (by omega) (by omega) (hsr.below (hA o) hbb) (by simp; omega)
  have HRC := hide hRC
  have HA := hide hA
  clear hRC hA c1 c2
  go_wp2_with fail
  refine (unhide HRC _).mono ?_
  rintro e W1 ⟨rfl, hb1⟩
  clear HRC
  unfold frC
  obtain ⟨pp, hpp⟩ : ∃ pp, (ctlF m k r).p = pp := ⟨_, rfl⟩
  obtain ⟨nsv, hns⟩ : ∃ nsv, (ctlF m k r).ns = nsv := ⟨_, rfl⟩
  obtain ⟨nrv, hnr⟩ : ∃ nrv, (ctlF m k r).nr = nrv := ⟨_, rfl⟩
  rw [hpp, hns, hnr]
  have HPP := hide hpp
  have HNS := hide hns
  have HNR := hide hnr
  clear hpp hns hnr
  have hz1 := hb1.size
  simp only [World.alloc, Array.size_push] at hz1
  have hx1 : W1.cell? ⟨b, off, none⟩ = some (.int .u8 (x.toNat : Int)) := by
    rw [hb1.cell (p := ⟨b, off, none⟩) (by simp; omega), (unhide HA _).cell (p := ⟨b, off, none⟩) hbb]
    exact hx0
  have hx1a : ∀ o, (W1.alloc o).cell? ⟨b, off, none⟩ = some (.int .u8 (x.toNat : Int)) := fun o => by
    rw [((Below.refl W1.heap.size W1).alloc (Nat.le_refl _) o).cell (p := ⟨b, off, none⟩) (by show b < _; omega)]
    exact hx1
  have hR1 : W1.heap[W0.heap.size]? = some (.cells #[.int .i64 0, .int .i64 0, .bool false, .int .i64 0, .int .i64 0, .slice none 0 0] 30 (0, 0)) := by
    rw [hb1.block W0.heap.size (by simp)]
    exact Array.getElem?_push_size
  have hx8 : x.toNat < 256 := x.toNat_lt
  have hneb : ¬ b = W1.heap.size := by omega
  have hn0 : (0 : Int) < (r.length : Int) + 1 := by omega
  have HB1 := hide hb1
  have HR1 := hide hR1
  clear hb1 hR1
  go_wp2
  obtain ⟨W2, hW2⟩ : ∃ W2, W2 = W1.alloc (.cells #[.int .i64 (x.toNat : Int), .int .i64 k, .bool pp, .int .i64 nsv, .int .i64 nrv, .slice none 0 0] 30) := ⟨_, rfl⟩
  rw [← hW2]
  have hb12 : Below W1.heap.size W1 W2 := by rw [hW2]; exact (Below.refl _ W1).alloc (Nat.le_refl _) _
  have hz2 : W2.heap.size = W1.heap.size + 1 := by rw [hW2]; simp
  have hF : W2.heap[W1.heap.size]? = some (.cells #[.int .i64 (x.toNat : Int), .int .i64 k, .bool pp, .int .i64 nsv, .int .i64 nrv, .slice none 0 0] 30 (0, 0)) := by rw [hW2]; exact Array.getElem?_push_size
  have hR : W2.heap[W0.heap.size]? = some (.cells #[.int .i64 0, .int .i64 0, .bool false, .int .i64 0, .int .i64 0, .slice none 0 0] 30 (0, 0)) := by rw [hb12.block W0.heap.size (by omega)]; exact unhide HR1
  have hb2 : Below w.heap.size w W2 := (hb0.trans ((unhide HA _).mono (by omega))).trans (((unhide HB1).mono (by simp; omega)).trans (hb12.mono (by omega)))
  have hs2 : Seg W2 b off (x :: r) := hseg.below hb2 hb
  have hs3 : Seg W2 b (off + (1 + cb)) (r.drop cb) := by
    intro i hi
    simp at hi
    have := hs2 (i + cb + 1) (by simp; omega)
    rw [show off + (1 + cb) + i = off + (i + cb + 1) by omega, this]
    simp [List.getD, Nat.add_comm]
  have hc5 : W2.cell? ⟨W1.heap.size, 5, none⟩ = some (.slice none 0 0) := by rw [Lib.cell_of_heap hF]; rfl
  have hf5 : W2.frozen? ⟨W1.heap.size, 5, none⟩ = false := Lib.frozen_of_heap hF 5
  clear hW2 hx1a hx1 HR1 HB1 HA hsr hx0 hs0w hs2
  have hs4 : Seg W2 b (tailOff off c cb) (r.drop cb) := by
    unfold tailOff
    split
    · have : r.drop cb = [] := List.drop_eq_nil_iff.2 (by omega)
      rw [this]
      exact Seg.nil _ _ _
    · exact hs3
  have hst := fun w => slice_tail b off r.length c cb hn w
  have hdl : (r.drop cb).length = r.length - cb := List.length_drop
  generalize tailOff off c cb = to at hst hs4
  obtain ⟨rd, hrd⟩ : ∃ rd, r.drop cb = rd := ⟨_, rfl⟩
  obtain ⟨n, hnn⟩ : ∃ n, r.length - cb = n := ⟨_, rfl⟩
  rw [hrd] at hs4 hdl
  rw [hnn] at hst hdl hi
  have hn48 : n ≤ 1048576 := by omega
  have HRD := hide hrd
  have HNN := hide hnn
  clear hrd hnn hsub
  generalize c - (1 + cb) = cc at hst
  clear hs3
  go_region_law ((refine step_append_own _ (by rfl) _ _ 28 (by rfl) W2.heap.size 5 i0 _ 1 1 Tryz.underlying28 hi0 hz0 hz1' hz2' rfl (by omega) (.slice none 0 0) 0 [] (by rfl) (World.ownsRow_nil _ _ _ _) ⟨b, to, none⟩ n cc (Lib.byteCells rd) (by rfl) ?a1 ?a2 ?a3 ?a4 ?a5 ?a6 ?_; (case a1 => simp [Lib.byteCells, hdl]); (case a2 => exact hs4.news); (case a3 => exact byteCells_one rd); (case a4 => unfold maxLen; omega); (case a5 => omega); (case a6 => simp); intro v1 w1 hown1 hg1 hnil1; obtain ⟨q1, cp1, rfl⟩ := own_slice hown1; have hF1 := (hg1.block W1.heap.size (by show W1.heap.size < W2.heap.size; omega) (by simp [Value.ownBlock])).trans hF; have k5 : w1.cell? ⟨W1.heap.size, 5, none⟩ = some (.slice none 0 0) := (by rw [Lib.cell_of_heap hF1]; rfl); have kf5 : w1.frozen? ⟨W1.heap.size, 5, none⟩ = false := Lib.frozen_of_heap hF1 5))
  all_goals
    have hR1 := (hg1.block W0.heap.size (by show W0.heap.size < W2.heap.size; omega) (by simp [Value.ownBlock])).trans hR
    have k0 : w1.cell? ⟨W1.heap.size, 0, none⟩ = some (.int .i64 (x.toNat : Int)) := by rw [Lib.cell_of_heap hF1]; rfl
    have k1 : w1.cell? ⟨W1.heap.size, 1, none⟩ = some (.int .i64 (k : Int)) := by rw [Lib.cell_of_heap hF1]; rfl
    have k2 : w1.cell? ⟨W1.heap.size, 2, none⟩ = some (.bool pp) := by rw [Lib.cell_of_heap hF1]; rfl
    have k3 : w1.cell? ⟨W1.heap.size, 3, none⟩ = some (.int .i64 nsv) := by rw [Lib.cell_of_heap hF1]; rfl
    have k4 : w1.cell? ⟨W1.heap.size, 4, none⟩ = some (.int .i64 nrv) := by rw [Lib.cell_of_heap hF1]; rfl
    have r0 : w1.cell? ⟨W0.heap.size, 0, none⟩ = some (.int .i64 0) := by rw [Lib.cell_of_heap hR1]; rfl
    have r1 : w1.cell? ⟨W0.heap.size, 1, none⟩ = some (.int .i64 0) := by rw [Lib.cell_of_heap hR1]; rfl
    have r2 : w1.cell? ⟨W0.heap.size, 2, none⟩ = some (.bool false) := by rw [Lib.cell_of_heap hR1]; rfl
    have r3 : w1.cell? ⟨W0.heap.size, 3, none⟩ = some (.int .i64 0) := by rw [Lib.cell_of_heap hR1]; rfl
    have r4 : w1.cell? ⟨W0.heap.size, 4, none⟩ = some (.int .i64 0) := by rw [Lib.cell_of_heap hR1]; rfl
    have r5 : w1.cell? ⟨W0.heap.size, 5, none⟩ = some (.slice none 0 0) := by rw [Lib.cell_of_heap hR1]; rfl
    have rf : ∀ i, w1.frozen? ⟨W0.heap.size, i, none⟩ = false := fun i => Lib.frozen_of_heap hR1 i
    have hne : ¬ W0.heap.size = W1.heap.size := by omega
    have hne' : ¬ W1.heap.size = W0.heap.size := by omega
    have hb3 : Below w.heap.size w w1 := (hb2.drew).grown hg1 hb2.size (fun k hk => by simp [Value.ownBlock] at hk)
    have HB3 := hide hb3
    have HO1 := hide hown1
    clear hb3 hown1 hF1 hR1 hF hR hs4 hg1 hnil1
    go_wp2
    refine bodyPost_ret (v := .tuple #[.agg #[.int .i64 (x.toNat : Int), .int .i64 (k : Int), .bool pp, .int .i64 nsv, .int .i64 nrv, .slice q1 n cp1], .int .i64 0]) (by simp [results, Tryz.results35, go_sem, r0, r1, r2, r3, r4, r5]) rfl ⟨q1, cp1, by rw [HPP.out, HNS.out, HNR.out, HNN.out], ?_, ?_⟩
    · rw [HNN.out, HRD.out]
      have h := unhide HO1
      simp only [Nat.zero_add, List.nil_append] at h
      refine ownsRow_mono (b1 := W2.heap.size) ?_ (by omega)
      exact ownsRow_set (ownsRow_set (ownsRow_set (ownsRow_set (ownsRow_set (ownsRow_set (ownsRow_set h _ (by show W1.heap.size < _; omega) _) _ (by show W0.heap.size < _; omega) _) _ (by show W0.heap.size < _; omega) _) _ (by show W0.heap.size < _; omega) _) _ (by show W0.heap.size < _; omega) _) _ (by show W0.heap.size < _; omega) _) _ (by show W0.heap.size < _; omega) _
    · exact (((((((unhide HB3).setCell (by show _ ≤ W1.heap.size; omega) _).setCell (by show _ ≤ W0.heap.size; omega) _).setCell (by show _ ≤ W0.heap.size; omega) _).setCell (by show _ ≤ W0.heap.size; omega) _).setCell (by show _ ≤ W0.heap.size; omega) _).setCell (by show _ ≤ W0.heap.size; omega) _).setCell (by show _ ≤ W0.heap.size; omega) _
end Go.Proofs.YtkalonhalhdlaaaGreatDoor
