/-
  What one call of tetherlaw.whole does.
-/
import Derived.Test.YtkalonhalhdlaaaGreatDoorRLent
import Derived.WalkSpells
import Derived.Laws.IdiomStrings
namespace Go.Proofs.YtkalonhalhdlaaaGreatDoor
open Go.RowKit

theorem bytes_eql_nil (a : Option Addr) (n c : Nat) (w : World) : (binOp .eql 28 (.slice a n c) (.slice none 0 0)).run Tryz.prog w = .ok (.bool a.isNone) w :=
  Lib.run_eql_slice_nil w 28 5 a n c 0 0 Tryz.underlying28
theorem seg_string {w : World} {b off cap : Nat} {l : List UInt8} (h : Seg w b off l) : (convert 28 9 (.slice (some ⟨b, off, none⟩) l.length cap)).run Tryz.prog w = .ok (.string ⟨l.toArray⟩) w :=
  run_convert_bytes_back w 28 9 5 ⟨b, off, none⟩ cap l Tryz.underlying28 Tryz.underlying5 Tryz.underlying9 (fun j hj => by
    rw [Go.WideShapes.add_plain, h j hj]
    simp [List.getD, hj])
theorem whole_get (s : ByteArray) (k : Nat) (hk : s.size ≤ k) (hk8 : k < s.size + 8) : (List.replicate k (1 : UInt8) ++ (lentL s).drop k).getD k 0 = 77 := by
  have e : s.data.toList.length = s.size := by simp
  simp only [List.getD]
  rw [List.getElem?_append_right (by simp), List.length_replicate, Nat.sub_self, List.getElem?_drop, Nat.add_zero, lentL, List.getElem?_append_right (by omega), e]
  rw [List.getElem?_replicate, if_pos (by omega)]
  rfl
theorem whole_put (s : ByteArray) (k : Nat) (hk8 : k < s.size + 8) : (List.replicate k (1 : UInt8) ++ (lentL s).drop k).set k 1 = List.replicate (k + 1) 1 ++ (lentL s).drop (k + 1) := by
  have hl := lentL_length s
  rw [List.set_append_right _ _ (by simp), List.length_replicate, Nat.sub_self, List.drop_eq_getElem_cons (by omega), List.set_cons_zero]
  rw [List.replicate_succ', List.append_assoc]
  rfl

set_option maxHeartbeats 2000000 in
set_option maxRecDepth 100000 in
theorem whole_nil (s : ByteArray) (w : World) :
    Calls Tryz.prog 26 #[.slice none 0 0, .string s] w fun e w' => e = .returned (.bool true) ∧ w' = w := by
  have hq := bytes_eql_nil none 0 0
  go_enter Tryz.func26, Tryz.ntmps26
  go_wp2
  go_ret
  exact ⟨rfl, rfl⟩

set_option maxHeartbeats 2000000 in
set_option maxRecDepth 100000 in
theorem whole_some (g : Nat) (s : ByteArray) (w : World) (hs : s.size ≤ 1099511627776) (hr : RowIs w g (lentL s)) :
    Calls Tryz.prog 26 #[.slice (some ⟨g, 0, none⟩) s.size (s.size + 8), .string s] w fun e w' => e = .returned (.bool true) ∧ Keeps (· = g) w w' ∧ w'.heap.size = w.heap.size := by
  have hq := bytes_eql_nil (some ⟨g, 0, none⟩) s.size (s.size + 8)
  have hcv : (convert 28 9 (.slice (some ⟨g, 0, none⟩) s.size (s.size + 8))).run Tryz.prog w = .ok (.string s) w := by
    have h0 : Seg w g 0 s.data.toList := by
      have := hr.seg.take s.size
      have e : (lentL s).take s.size = s.data.toList := by
        have e2 : s.size = s.data.toList.length := by simp
        rw [lentL, e2, List.take_left]
      rwa [e] at this
    have h1 := seg_string (cap := s.size + 8) h0
    have e2 : s.data.toList.length = s.size := by simp
    rw [e2] at h1
    simpa using h1
  have HR := hide hr
  clear hr
  go_enter Tryz.func26, Tryz.ntmps26
  go_wp2
  go_loopw [7, 8] (fun o v wr => ∃ (k : Nat), k ≤ s.size + 8 ∧ o = .bool true ∧ v = .int .i64 k ∧ RowIs wr g (List.replicate k 1 ++ (lentL s).drop k) ∧ Keeps (· = g) w wr ∧ wr.heap.size = w.heap.size) (fun _ v _ => s.size + 8 - (intOf v).toNat)
  case atStart => exact ⟨0, Nat.zero_le _, by simp, rfl, by simpa using unhide HR, Keeps.refl _ _, rfl⟩
  case round =>
    clear HR hcv
    obtain ⟨k, hk, rfl, rfl, hrow, hkp, hsz⟩ := hrel
    by_cases hlt : k < s.size + 8
    · have c0 := hrow.cell k (by simp [lentL_length]; omega)
      have fz := hrow.fz
      have hput := hrow.set k 1
      rw [whole_put s k hlt] at hput
      have HP := hide hput
      have HB := hide (hkp.setB k (.int .u8 ((1 : UInt8).toNat : Int)))
      have HZ := hide ((size_setCell wr ⟨g, k, none⟩ (.int .u8 ((1 : UInt8).toNat : Int))).trans hsz)
      clear hput
      by_cases hks : k < s.size
      · have g1 : (k : Int) < (s.size : Int) := by omega
        generalize (List.replicate k (1 : UInt8) ++ (lentL s).drop k).getD k 0 = x at c0
        go_wp2
        go_roundw
        case rel => exact ⟨k + 1, hlt, rfl, by go_num, unhide HP, unhide HB, unhide HZ⟩
        case measure => simp [intOf]; omega
      · have g1 : ¬ ((k : Int) < (s.size : Int)) := by omega
        rw [whole_get s k (by omega) hlt] at c0
        go_wp2
        go_roundw
        case rel => exact ⟨k + 1, hlt, rfl, by go_num, unhide HP, unhide HB, unhide HZ⟩
        case measure => simp [intOf]; omega
    · go_wp2
      go_ret
      exact ⟨rfl, hkp, hsz⟩
end Go.Proofs.YtkalonhalhdlaaaGreatDoor
