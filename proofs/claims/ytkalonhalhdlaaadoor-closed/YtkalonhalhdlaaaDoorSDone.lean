/-
  A station that was closed: what each call answers.
-/
import Derived.Test.YtkalonhalhdlaaaDoorSCall5
namespace Go.Proofs.YtkalonhalhdlaaaDoor
open Go.RowKit

/-- The station at b was closed. -/
def Shut (w : World) (b : Nat) : Prop := ∃ ch, w.cell? ⟨b, 6, none⟩ = some (.chan (some ch)) ∧ w.heap[ch]? = some (.chan 0 #[] true 0 0 false) ∧ b < w.heap.size
theorem Shut.later {w w' : World} {b : Nat} (h : Shut w b) (hb : Below w.heap.size w w') : Shut w' b := by
  obtain ⟨ch, h1, h2, h3⟩ := h
  refine ⟨ch, ?_, ?_, Nat.lt_of_lt_of_le h3 hb.size⟩
  · rw [hb.cell (p := ⟨b, 6, none⟩) h3]; exact h1
  · rw [(show Keeps (fun _ => False) w w' from Keeps.of hb).block ch (Array.getElem?_eq_some_iff.1 h2).1 id]; exact h2
theorem Shut.is {w : World} {b : Nat} (h : Shut w b) : Calls Tryd.prog 41 #[.pointer (some ⟨b, 0, none⟩)] w fun e w' => e = .returned (.bool true) ∧ w' = w := by
  obtain ⟨ch, h1, h2, _⟩ := h
  exact isClosed_shut b ch 0 0 0 false w h1 h2

section
variable {w : World} {b : Nat}
set_option maxHeartbeats 2000000 in
set_option maxRecDepth 100000 in
theorem connect_done (h : Shut w b) :
    Calls Tryd.prog 17 #[.pointer (some ⟨b, 0, none⟩)] w fun e w' => e = .returned (.int .i64 8) ∧ Below w.heap.size w w' := by
  have K1 := hide (fun V (hV : Below w.heap.size w V) => (h.later hV).is)
  have hlt : b < w.heap.size := h.choose_spec.2.2
  clear h
  go_enter Tryd.func17, Tryd.ntmps17
  go_wp2_with fail
  refine (unhide K1 _ ?_).mono ?_
  · first | exact Below.refl _ _ | exact (Below.refl _ w).alloc (Nat.le_refl _) _
  rintro e w1 ⟨rfl, hw1⟩
  subst hw1
  clear K1
  go_wp2
  go_ret
  exact ⟨rfl, by first | exact Below.refl _ _ | exact (Below.refl _ w).alloc (Nat.le_refl _) _⟩

set_option maxHeartbeats 2000000 in
set_option maxRecDepth 100000 in
theorem leave_done (h : Shut w b) :
    Calls Tryd.prog 18 #[.pointer (some ⟨b, 0, none⟩)] w fun e w' => e = .returned (.int .i64 8) ∧ Below w.heap.size w w' := by
  have K1 := hide (fun V (hV : Below w.heap.size w V) => (h.later hV).is)
  have hlt : b < w.heap.size := h.choose_spec.2.2
  clear h
  go_enter Tryd.func18, Tryd.ntmps18
  go_wp2_with fail
  refine (unhide K1 _ ?_).mono ?_
  · first | exact Below.refl _ _ | exact (Below.refl _ w).alloc (Nat.le_refl _) _
  rintro e w1 ⟨rfl, hw1⟩
  subst hw1
  clear K1
  go_wp2
  go_ret
  exact ⟨rfl, by first | exact Below.refl _ _ | exact (Below.refl _ w).alloc (Nat.le_refl _) _⟩

set_option maxHeartbeats 2000000 in
set_option maxRecDepth 100000 in
theorem send_done (h : Shut w b) (p : Option Addr) (n cp : Nat) :
    Calls Tryd.prog 19 #[.pointer (some ⟨b, 0, none⟩), .slice p n cp] w fun e w' => e = .returned (.int .i64 8) ∧ Below w.heap.size w w' := by
  have K1 := hide (fun V (hV : Below w.heap.size w V) => (h.later hV).is)
  have hlt : b < w.heap.size := h.choose_spec.2.2
  clear h
  go_enter Tryd.func19, Tryd.ntmps19
  go_wp2_with fail
  refine (unhide K1 _ ?_).mono ?_
  · first | exact Below.refl _ _ | exact (Below.refl _ w).alloc (Nat.le_refl _) _
  rintro e w1 ⟨rfl, hw1⟩
  subst hw1
  clear K1
  go_wp2
  go_ret
  exact ⟨rfl, by first | exact Below.refl _ _ | exact (Below.refl _ w).alloc (Nat.le_refl _) _⟩

set_option maxHeartbeats 2000000 in
set_option maxRecDepth 100000 in
theorem busy_done (h : Shut w b) (on : Bool) :
    Calls Tryd.prog 20 #[.pointer (some ⟨b, 0, none⟩), .bool on] w fun e w' => e = .returned (.int .i64 8) ∧ Below w.heap.size w w' := by
  have K1 := hide (fun V (hV : Below w.heap.size w V) => (h.later hV).is)
  have hlt : b < w.heap.size := h.choose_spec.2.2
  clear h
  go_enter Tryd.func20, Tryd.ntmps20
  go_wp2_with fail
  refine (unhide K1 _ ?_).mono ?_
  · first | exact Below.refl _ _ | exact (Below.refl _ w).alloc (Nat.le_refl _) _
  rintro e w1 ⟨rfl, hw1⟩
  subst hw1
  clear K1
  go_wp2
  go_ret
  exact ⟨rfl, by first | exact Below.refl _ _ | exact (Below.refl _ w).alloc (Nat.le_refl _) _⟩

set_option maxHeartbeats 2000000 in
set_option maxRecDepth 100000 in
theorem hear_done (h : Shut w b) (p : Option Addr) (n cp : Nat) :
    Calls Tryd.prog 14 #[.pointer (some ⟨b, 0, none⟩), .slice p n cp] w fun e w' => e = .returned (.int .i64 8) ∧ Below w.heap.size w w' := by
  have K1 := hide (fun V (hV : Below w.heap.size w V) => (h.later hV).is)
  have hlt : b < w.heap.size := h.choose_spec.2.2
  clear h
  go_enter Tryd.func14, Tryd.ntmps14
  go_wp2_with fail
  refine (unhide K1 _ ?_).mono ?_
  · first | exact Below.refl _ _ | exact (Below.refl _ w).alloc (Nat.le_refl _) _
  rintro e w1 ⟨rfl, hw1⟩
  subst hw1
  clear K1
  go_wp2
  go_ret
  exact ⟨rfl, by first | exact Below.refl _ _ | exact (Below.refl _ w).alloc (Nat.le_refl _) _⟩

set_option maxHeartbeats 2000000 in
set_option maxRecDepth 100000 in
theorem tick_done (h : Shut w b) :
    Calls Tryd.prog 21 #[.pointer (some ⟨b, 0, none⟩)] w fun e w' => e = .returned (.int .i64 8) ∧ Below w.heap.size w w' := by
  have K1 := hide (fun V (hV : Below w.heap.size w V) => (h.later hV).is)
  have hlt : b < w.heap.size := h.choose_spec.2.2
  clear h
  go_enter Tryd.func21, Tryd.ntmps21
  go_wp2_with fail
  refine (unhide K1 _ ?_).mono ?_
  · first | exact Below.refl _ _ | exact (Below.refl _ w).alloc (Nat.le_refl _) _
  rintro e w1 ⟨rfl, hw1⟩
  subst hw1
  clear K1
  go_wp2
  go_ret
  exact ⟨rfl, by first | exact Below.refl _ _ | exact (Below.refl _ w).alloc (Nat.le_refl _) _⟩

set_option maxHeartbeats 2000000 in
set_option maxRecDepth 100000 in
theorem close_done (h : Shut w b) :
    Calls Tryd.prog 16 #[.pointer (some ⟨b, 0, none⟩)] w fun e w' => e = .returned (.int .i64 8) ∧ Below w.heap.size w w' := by
  have K1 := hide (fun V (hV : Below w.heap.size w V) => (h.later hV).is)
  have hlt : b < w.heap.size := h.choose_spec.2.2
  clear h
  go_enter Tryd.func16, Tryd.ntmps16
  go_wp2_with fail
  refine (unhide K1 _ ?_).mono ?_
  · first | exact Below.refl _ _ | exact (Below.refl _ w).alloc (Nat.le_refl _) _
  rintro e w1 ⟨rfl, hw1⟩
  subst hw1
  clear K1
  go_wp2
  go_ret
  exact ⟨rfl, by first | exact Below.refl _ _ | exact (Below.refl _ w).alloc (Nat.le_refl _) _⟩

set_option maxHeartbeats 2000000 in
set_option maxRecDepth 100000 in
theorem taken_done (h : Shut w b) :
    Calls Tryd.prog 22 #[.pointer (some ⟨b, 0, none⟩)] w fun e w' => e = .returned (.tuple #[.slice none 0 0, .int .i64 8]) ∧ Below w.heap.size w w' := by
  have K1 := hide (fun V (hV : Below w.heap.size w V) => (h.later hV).is)
  have hlt : b < w.heap.size := h.choose_spec.2.2
  clear h
  go_enter Tryd.func22, Tryd.ntmps22
  go_wp2_with fail
  refine (unhide K1 _ ?_).mono ?_
  · first | exact Below.refl _ _ | exact (Below.refl _ w).alloc (Nat.le_refl _) _
  rintro e w1 ⟨rfl, hw1⟩
  subst hw1
  clear K1
  go_wp2
  exact bodyPost_ret (v := .tuple #[.slice none 0 0, .int .i64 8]) (by simp [results, Tryd.results22, go_sem]) rfl ⟨rfl, by first | exact Below.refl _ _ | exact (Below.refl _ w).alloc (Nat.le_refl _) _⟩

set_option maxHeartbeats 2000000 in
set_option maxRecDepth 100000 in
theorem out_done (h : Shut w b) :
    Calls Tryd.prog 23 #[.pointer (some ⟨b, 0, none⟩)] w fun e w' => e = .returned (.tuple #[.slice none 0 0, .int .i64 8]) ∧ Below w.heap.size w w' := by
  have K1 := hide (fun V (hV : Below w.heap.size w V) => (h.later hV).is)
  have hlt : b < w.heap.size := h.choose_spec.2.2
  clear h
  go_enter Tryd.func23, Tryd.ntmps23
  go_wp2_with fail
  refine (unhide K1 _ ?_).mono ?_
  · first | exact Below.refl _ _ | exact (Below.refl _ w).alloc (Nat.le_refl _) _
  rintro e w1 ⟨rfl, hw1⟩
  subst hw1
  clear K1
  go_wp2
  exact bodyPost_ret (v := .tuple #[.slice none 0 0, .int .i64 8]) (by simp [results, Tryd.results23, go_sem]) rfl ⟨rfl, by first | exact Below.refl _ _ | exact (Below.refl _ w).alloc (Nat.le_refl _) _⟩

set_option maxHeartbeats 2000000 in
set_option maxRecDepth 100000 in
theorem events_done (h : Shut w b) :
    Calls Tryd.prog 24 #[.pointer (some ⟨b, 0, none⟩)] w fun e w' => e = .returned (.tuple #[.slice none 0 0, .int .i64 8]) ∧ Below w.heap.size w w' := by
  have K1 := hide (fun V (hV : Below w.heap.size w V) => (h.later hV).is)
  have hlt : b < w.heap.size := h.choose_spec.2.2
  clear h
  go_enter Tryd.func24, Tryd.ntmps24
  go_wp2_with fail
  refine (unhide K1 _ ?_).mono ?_
  · first | exact Below.refl _ _ | exact (Below.refl _ w).alloc (Nat.le_refl _) _
  rintro e w1 ⟨rfl, hw1⟩
  subst hw1
  clear K1
  go_wp2
  exact bodyPost_ret (v := .tuple #[.slice none 0 0, .int .i64 8]) (by simp [results, Tryd.results24, go_sem]) rfl ⟨rfl, by first | exact Below.refl _ _ | exact (Below.refl _ w).alloc (Nat.le_refl _) _⟩

set_option maxHeartbeats 4000000 in
set_option maxRecDepth 100000 in
theorem view_done (h : Shut w b) :
    Calls Tryd.prog 15 #[.pointer (some ⟨b, 0, none⟩)] w fun e w' => e = .returned (.tuple #[viewZ, .int .i64 8]) ∧ Below w.heap.size w w' := by
  have K1 := hide (fun V (hV : Below w.heap.size w V) => (h.later hV).is)
  have hlt : b < w.heap.size := h.choose_spec.2.2
  clear h
  unfold viewZ
  go_enter Tryd.func15, Tryd.ntmps15
  go_wp2_with fail
  refine (unhide K1 _ ?_).mono ?_
  · first | exact Below.refl _ _ | exact (Below.refl _ w).alloc (Nat.le_refl _) _
  rintro e w1 ⟨rfl, hw1⟩
  subst hw1
  clear K1
  go_wp2
  exact bodyPost_ret (v := .tuple #[.agg #[.int .i64 0, .int .i64 0, .int .i64 0, .int .i64 0, .int .i64 0, .int .i64 0, .bool false, .bool false, .bool false, .int .i64 0, .int .i64 0], .int .i64 8]) (by simp [results, Tryd.results15, go_sem]) rfl ⟨rfl, (Below.refl _ w).alloc (Nat.le_refl _) _⟩
end
end Go.Proofs.YtkalonhalhdlaaaDoor
