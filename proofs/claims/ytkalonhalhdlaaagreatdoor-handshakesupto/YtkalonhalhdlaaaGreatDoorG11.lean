import Derived.Test.YtkalonhalhdlaaaGreatDoorGSmall
import Derived.Test.YtkalonhalhdlaaaGreatDoorG02
import Derived.Deep.Cut
import Derived.Deep.CutRange
import Derived.Deep.CutBlock
import Derived.Test.YtkalonhalhdlaaaGreatDoorG01
/-
  What one call of the document's own Write does: what the code's does, in plain words.
-/
namespace Go.Proofs.YtkalonhalhdlaaaGreatDoor
open Go.RowKit
set_option maxHeartbeats 2000000 in
set_option maxRecDepth 100000 in
theorem refWrite_arg1 (m a k ns nr : Int) (p : Bool) (v : Value) (w : World) (h : (isMod m && isKd k) = false) :
    Calls Tryz.prog 33 #[.int .i64 m, .agg #[.int .i64 a, .int .i64 k, .bool p, .int .i64 ns, .int .i64 nr, v]] w fun e w' => e = .returned (.tuple #[.slice none 0 0, .int .i64 1]) ∧ Below w.heap.size w w' := by
  have hb0 : ∀ o, Below w.heap.size w (w.alloc o) := fun o => (Below.refl _ w).alloc (Nat.le_refl _) o
  by_cases hm8 : m = 8
  · subst hm8
    by_cases hk1 : k < 1
    · go_enter Tryz.func33, Tryz.ntmps33
      go_wp2
      exact bodyPost_ret (v := .tuple #[.slice none 0 0, .int .i64 1]) (by simp [results, Tryz.results33, go_sem]) rfl ⟨rfl, hb0 _⟩
    · have hk9 : 9 < k := by simp [isMod, isKd] at h; omega
      go_enter Tryz.func33, Tryz.ntmps33
      go_wp2
      exact bodyPost_ret (v := .tuple #[.slice none 0 0, .int .i64 1]) (by simp [results, Tryz.results33, go_sem]) rfl ⟨rfl, hb0 _⟩
  · by_cases hm128 : m = 128
    · subst hm128
      by_cases hk1 : k < 1
      · go_enter Tryz.func33, Tryz.ntmps33
        go_wp2
        exact bodyPost_ret (v := .tuple #[.slice none 0 0, .int .i64 1]) (by simp [results, Tryz.results33, go_sem]) rfl ⟨rfl, hb0 _⟩
      · have hk9 : 9 < k := by simp [isMod, isKd] at h; omega
        go_enter Tryz.func33, Tryz.ntmps33
        go_wp2
        exact bodyPost_ret (v := .tuple #[.slice none 0 0, .int .i64 1]) (by simp [results, Tryz.results33, go_sem]) rfl ⟨rfl, hb0 _⟩
    · go_enter Tryz.func33, Tryz.ntmps33
      go_wp2
      exact bodyPost_ret (v := .tuple #[.slice none 0 0, .int .i64 1]) (by simp [results, Tryz.results33, go_sem]) rfl ⟨rfl, hb0 _⟩
/-- Modulo and kind may be: the test's own form. -/
theorem mk_form {m k : Int} (h : (isMod m && isKd k) = true) : (m = 8 ∨ m = 128) ∧ ¬ k < 1 ∧ ¬ 9 < k := by
  simp [isMod, isKd] at h
  omega
set_option maxHeartbeats 2000000 in
set_option maxRecDepth 100000 in
theorem refWrite_arg2 (m a k ns nr : Int) (p : Bool) (v : Value) (w : World) (h : (isMod m && isKd k) = true) (hn : (numF m ns (hasS k) && numF m nr (hasR k)) = false) :
    Calls Tryz.prog 33 #[.int .i64 m, .agg #[.int .i64 a, .int .i64 k, .bool p, .int .i64 ns, .int .i64 nr, v]] w fun e w' => e = .returned (.tuple #[.slice none 0 0, .int .i64 1]) ∧ Below w.heap.size w w' := by
  have hb0 : ∀ o, Below w.heap.size w (w.alloc o) := fun o => (Below.refl _ w).alloc (Nat.le_refl _) o
  obtain ⟨hm, hk1, hk9⟩ := mk_form h
  have c1 := fun w => refHasNS_any k w
  have c2 := fun w => refHasNR_any k w
  have c3 := fun w => refNumber_any m ns (hasS k) w
  have c4 := fun w => refNumber_any m nr (hasR k) w
  generalize numF m nr (hasR k) = y at c4 hn
  generalize numF m ns (hasS k) = x at c3 hn
  generalize hasS k = s at c1 c3
  generalize hasR k = r at c2 c4
  clear h
  have hmx : ((m != 8) && (m != 128)) = false := by rcases hm with rfl | rfl <;> rfl
  cases x with
  | false =>
    rcases hm with rfl | rfl
    all_goals
      go_enter Tryz.func33, Tryz.ntmps33
      go_wp2_with fail
      refine (c1 _).mono ?_
      rintro e W1 ⟨rfl, rfl⟩
      go_wp2_with fail
      refine (c2 _).mono ?_
      rintro e W1 ⟨rfl, rfl⟩
      go_wp2_with fail
      refine (c3 _).mono ?_
      rintro e W1 ⟨rfl, rfl⟩
      go_wp2_with fail
      refine (c4 _).mono ?_
      rintro e W1 ⟨rfl, rfl⟩
      go_wp2
      exact bodyPost_ret (v := .tuple #[.slice none 0 0, .int .i64 1]) (by simp [results, Tryz.results33, go_sem]) rfl ⟨rfl, hb0 _⟩
  | true =>
    simp at hn
    subst hn
    rcases hm with rfl | rfl
    all_goals
      go_enter Tryz.func33, Tryz.ntmps33
      go_wp2_with fail
      refine (c1 _).mono ?_
      rintro e W1 ⟨rfl, rfl⟩
      go_wp2_with fail
      refine (c2 _).mono ?_
      rintro e W1 ⟨rfl, rfl⟩
      go_wp2_with fail
      refine (c3 _).mono ?_
      rintro e W1 ⟨rfl, rfl⟩
      go_wp2_with fail
      refine (c4 _).mono ?_
      rintro e W1 ⟨rfl, rfl⟩
      go_wp2
      exact bodyPost_ret (v := .tuple #[.slice none 0 0, .int .i64 1]) (by simp [results, Tryz.results33, go_sem]) rfl ⟨rfl, hb0 _⟩
end Go.Proofs.YtkalonhalhdlaaaGreatDoor

/-
  What one call of the document's own Write does where the numbers may be.
-/
namespace Go.Proofs.YtkalonhalhdlaaaGreatDoor
open Go.RowKit
theorem addr_form {a : Int} (h : isAddr a = false) : (a != 1) = true ∧ (a != 3) = true := by
  simp [isAddr] at h
  simp [h.1, h.2]
set_option maxHeartbeats 2000000 in
set_option maxRecDepth 100000 in
theorem refWrite_addr (m a k ns nr : Int) (p : Bool) (v : Value) (w : World) (h : (isMod m && isKd k) = true) (hn : (numF m ns (hasS k) && numF m nr (hasR k)) = true) (ha : isAddr a = false) :
    Calls Tryz.prog 33 #[.int .i64 m, .agg #[.int .i64 a, .int .i64 k, .bool p, .int .i64 ns, .int .i64 nr, v]] w fun e w' => e = .returned (.tuple #[.slice none 0 0, .int .i64 3]) ∧ Below w.heap.size w w' := by
  have hb0 : ∀ o, Below w.heap.size w (w.alloc o) := fun o => (Below.refl _ w).alloc (Nat.le_refl _) o
  obtain ⟨hm, hk1, hk9⟩ := mk_form h
  obtain ⟨ha1, ha3⟩ := addr_form ha
  have c1 := fun w => refHasNS_any k w
  have c2 := fun w => refHasNR_any k w
  have c3 := fun w => refNumber_any m ns (hasS k) w
  have c4 := fun w => refNumber_any m nr (hasR k) w
  simp only [Bool.and_eq_true] at hn
  rw [hn.1] at c3
  rw [hn.2] at c4
  clear hn h
  generalize hasS k = s at c1 c3
  generalize hasR k = r at c2 c4
  rcases hm with rfl | rfl
  all_goals
    go_enter Tryz.func33, Tryz.ntmps33
    go_wp2_with fail
    refine (c1 _).mono ?_
    rintro e W1 ⟨rfl, rfl⟩
    go_wp2_with fail
    refine (c2 _).mono ?_
    rintro e W1 ⟨rfl, rfl⟩
    go_wp2_with fail
    refine (c3 _).mono ?_
    rintro e W1 ⟨rfl, rfl⟩
    go_wp2_with fail
    refine (c4 _).mono ?_
    rintro e W1 ⟨rfl, rfl⟩
    go_wp2
    exact bodyPost_ret (v := .tuple #[.slice none 0 0, .int .i64 3]) (by simp [results, Tryz.results33, go_sem]) rfl ⟨rfl, hb0 _⟩
set_option maxHeartbeats 2000000 in
set_option maxRecDepth 100000 in
theorem refWrite_info (m a k ns nr : Int) (p : Bool) (q : Option Addr) (n c : Nat) (w : World) (h : (isMod m && isKd k) = true) (hn : (numF m ns (hasS k) && numF m nr (hasR k)) = true) (ha : isAddr a = true) (hi : infoF m k n = false) :
    Calls Tryz.prog 33 #[.int .i64 m, .agg #[.int .i64 a, .int .i64 k, .bool p, .int .i64 ns, .int .i64 nr, .slice q n c]] w fun e w' => e = .returned (.tuple #[.slice none 0 0, .int .i64 5]) ∧ Below w.heap.size w w' := by
  have hb0 : ∀ o, Below w.heap.size w (w.alloc o) := fun o => (Below.refl _ w).alloc (Nat.le_refl _) o
  obtain ⟨hm, hk1, hk9⟩ := mk_form h
  have c5 := fun w => refInfos_any m k n w
  rw [hi] at c5
  have c1 := fun w => refHasNS_any k w
  have c2 := fun w => refHasNR_any k w
  have c3 := fun w => refNumber_any m ns (hasS k) w
  have c4 := fun w => refNumber_any m nr (hasR k) w
  simp only [Bool.and_eq_true] at hn
  rw [hn.1] at c3
  rw [hn.2] at c4
  clear hn h
  generalize hasS k = s at c1 c3
  generalize hasR k = r at c2 c4
  have ha' : a = 1 ∨ a = 3 := by simpa [isAddr] using ha
  clear ha hi
  rcases ha' with rfl | rfl
  all_goals
    rcases hm with rfl | rfl
    all_goals
      go_enter Tryz.func33, Tryz.ntmps33
      go_wp2_with fail
      refine (c1 _).mono ?_
      rintro e W1 ⟨rfl, rfl⟩
      go_wp2_with fail
      refine (c2 _).mono ?_
      rintro e W1 ⟨rfl, rfl⟩
      go_wp2_with fail
      refine (c3 _).mono ?_
      rintro e W1 ⟨rfl, rfl⟩
      go_wp2_with fail
      refine (c4 _).mono ?_
      rintro e W1 ⟨rfl, rfl⟩
      go_wp2_with fail
      refine (c5 _).mono ?_
      rintro e W1 ⟨rfl, rfl⟩
      go_wp2
      exact bodyPost_ret (v := .tuple #[.slice none 0 0, .int .i64 5]) (by simp [results, Tryz.results33, go_sem]) rfl ⟨rfl, hb0 _⟩
theorem owns_lit (W : World) (base : Nat) (x : UInt8) (h : base ≤ W.heap.size) : (W.alloc (.cells #[.int .u8 (x.toNat : Int)] 5)).ownsRow base 5 1 (.slice (some ⟨W.heap.size, 0, none⟩) 1 1) 1 (Lib.byteCells [x]) :=
  ⟨rfl, .inr ⟨W.heap.size, 1, _, rfl, h, Array.getElem?_push_size, Nat.le_refl _, by unfold maxLen; omega, rfl, rfl⟩⟩
end Go.Proofs.YtkalonhalhdlaaaGreatDoor

/-
  Bytes that are handed over; where there are none, their address may be any.
-/
namespace Go.Proofs.YtkalonhalhdlaaaGreatDoor
open Go.RowKit
def SrcE (w : World) (q : Option Addr) (l : List UInt8) : Prop := (q = none ∧ l = []) ∨ ∃ ad : Addr, q = some ad ∧ ∀ j u, (Lib.byteCells l)[j]? = some u → w.cell? (ad.add j) = some u
theorem SrcIs.e {w : World} {q : Option Addr} {l : List UInt8} (h : SrcIs w q l) : SrcE w q l := by
  rcases h with h | ⟨b, off, e, _, h⟩
  · exact .inl h
  · exact .inr ⟨⟨b, off, none⟩, e, h.news⟩
theorem SrcE.below {w w' : World} {q : Option Addr} {l : List UInt8} (h : SrcE w q l) {B : Nat} (hb : Below B w w') (hB : w.heap.size ≤ B) : SrcE w' q l := by
  rcases h with h | ⟨ad, e, h⟩
  · exact .inl h
  · refine .inr ⟨ad, e, fun j u hj => ?_⟩
    have hc := h j u hj
    have hlt := World.block_lt_of_cell? w _ hc
    rw [hb.cell (p := ad.add j) (Nat.lt_of_lt_of_le hlt hB)]
    exact hc
end Go.Proofs.YtkalonhalhdlaaaGreatDoor

/-
  What one call of the document's own Read does where there is no kind to be read.
-/
namespace Go.Proofs.YtkalonhalhdlaaaGreatDoor
open Go.RowKit
theorem mod_form {m : Int} (h : isMod m = false) : (m != 8) = true ∧ (m != 128) = true := by
  simp [isMod] at h
  simp [h.1, h.2]
set_option maxHeartbeats 2000000 in
set_option maxRecDepth 100000 in
theorem refRead_mod (m : Int) (v : Value) (w : World) (h : isMod m = false) :
    Calls Tryz.prog 36 #[.int .i64 m, v] w fun e w' => e = .returned (.tuple #[frZ, .int .i64 1]) ∧ Below w.heap.size w w' := by
  obtain ⟨h1, h2⟩ := mod_form h
  go_enter Tryz.func36, Tryz.ntmps36
  go_wp2
  exact bodyPost_ret (v := .tuple #[frZ, .int .i64 1]) (by simp [results, Tryz.results36, go_sem, frZ]) rfl ⟨rfl, (Below.refl _ w).alloc (Nat.le_refl _) _⟩
set_option maxHeartbeats 2000000 in
set_option maxRecDepth 100000 in
theorem refRead_nil (m : Int) (p : Option Addr) (c : Nat) (w : World) (h : isMod m = true) :
    Calls Tryz.prog 36 #[.int .i64 m, .slice p 0 c] w fun e w' => e = .returned (.tuple #[frZ, .int .i64 2]) ∧ Below w.heap.size w w' := by
  obtain ⟨m', rfl, hm⟩ := isMod_nat h
  rcases hm with rfl | rfl
  all_goals
    go_enter Tryz.func36, Tryz.ntmps36
    go_wp2
    exact bodyPost_ret (v := .tuple #[frZ, .int .i64 2]) (by simp [results, Tryz.results36, go_sem, frZ]) rfl ⟨rfl, (Below.refl _ w).alloc (Nat.le_refl _) _⟩
theorem addr_form8 {x : UInt8} (h : isAddr x.toNat = false) : ((x.toNat : Int) != 1) = true ∧ ((x.toNat : Int) != 3) = true := by
  simp only [isAddr, Bool.or_eq_false_iff, decide_eq_false_iff_not] at h
  constructor
  · simp; omega
  · simp; omega
set_option maxHeartbeats 2000000 in
set_option maxRecDepth 100000 in
theorem refRead_addr (m : Int) (b off n c : Nat) (x : UInt8) (w : World) (h : isMod m = true) (hn : 0 < n) (hx : w.cell? ⟨b, off, none⟩ = some (.int .u8 (x.toNat : Int))) (hb : b < w.heap.size) (ha : isAddr x.toNat = false) :
    Calls Tryz.prog 36 #[.int .i64 m, .slice (some ⟨b, off, none⟩) n c] w fun e w' => e = .returned (.tuple #[frZ, .int .i64 3]) ∧ Below w.heap.size w w' := by
  obtain ⟨m', rfl, hm⟩ := isMod_nat h
  obtain ⟨h1, h3⟩ := addr_form8 ha
  have hx8 : x.toNat < 256 := x.toNat_lt
  have hn1 : ((n : Int) == 0) = false := by simp; omega
  have hn2 : (0 : Int) < (n : Int) := by omega
  have hne : ¬ b = w.heap.size := by omega
  have hx1 : ∀ o, (w.alloc o).cell? ⟨b, off, none⟩ = some (.int .u8 (x.toNat : Int)) := fun o => by rw [((Below.refl w.heap.size w).alloc (Nat.le_refl _) o).cell (p := ⟨b, off, none⟩) hb]; exact hx
  clear ha
  rcases hm with rfl | rfl
  all_goals
    go_enter Tryz.func36, Tryz.ntmps36
    go_wp2
    exact bodyPost_ret (v := .tuple #[frZ, .int .i64 3]) (by simp [results, Tryz.results36, go_sem, frZ]) rfl ⟨rfl, (Below.refl _ w).alloc (Nat.le_refl _) _⟩
set_option maxHeartbeats 2000000 in
set_option maxRecDepth 100000 in
theorem refRead_one (m : Int) (b off c : Nat) (x : UInt8) (w : World) (h : isMod m = true) (hx : w.cell? ⟨b, off, none⟩ = some (.int .u8 (x.toNat : Int))) (hb : b < w.heap.size) (ha : isAddr x.toNat = true) :
    Calls Tryz.prog 36 #[.int .i64 m, .slice (some ⟨b, off, none⟩) 1 c] w fun e w' => e = .returned (.tuple #[frZ, .int .i64 2]) ∧ Below w.heap.size w w' := by
  obtain ⟨m', rfl, hm⟩ := isMod_nat h
  have hx8 : x.toNat < 256 := x.toNat_lt
  have hne : ¬ b = w.heap.size := by omega
  have hxx : x.toNat = 1 ∨ x.toNat = 3 := by
    simp only [isAddr, Bool.or_eq_true, decide_eq_true_eq] at ha
    omega
  have hx1 : ∀ o, (w.alloc o).cell? ⟨b, off, none⟩ = some (.int .u8 (x.toNat : Int)) := fun o => by rw [((Below.refl w.heap.size w).alloc (Nat.le_refl _) o).cell (p := ⟨b, off, none⟩) hb]; exact hx
  clear ha hx8
  rcases hxx with e | e
  all_goals
    rw [e] at hx1 hx
    clear e
    rcases hm with rfl | rfl
    all_goals
      go_enter Tryz.func36, Tryz.ntmps36
      go_wp2
      exact bodyPost_ret (v := .tuple #[frZ, .int .i64 2]) (by simp [results, Tryz.results36, go_sem, frZ]) rfl ⟨rfl, (Below.refl _ w).alloc (Nat.le_refl _) _⟩
end Go.Proofs.YtkalonhalhdlaaaGreatDoor
