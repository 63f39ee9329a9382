/-
  What one call of the document's own Write does where the numbers may be.
-/
import Derived.Test.YtkalonhalhdlaaaGreatDoorGWrite
import Derived.Deep.Cut
import Derived.Deep.CutRange
import Derived.Deep.CutBlock
namespace Go.Proofs.YtkalonhalhdlaaaGreatDoor
open Go.RowKit

theorem addr_form {a : Int} (h : isAddr a = false) : (a != 1) = true ∧ (a != 3) = true := by
  simp [isAddr] at h
  simp [h.1, h.2]

set_option maxHeartbeats 2000000 in
set_option maxRecDepth 100000 in
theorem refWrite_addr (m a k ns nr : Int) (p : Bool) (v : Value) (w : World) (h : (isMod m && isKd k) = true) (hn : (numF m ns (hasS k) && numF m nr (hasR k)) = true) (ha : isAddr a = false) :
    Calls Tryz.prog 33 #[.int .i64 m, .agg #[.int .i64 a, .int .i64 k, .bool p, .int .i64 ns, .int .i64 nr, v]] w fun e w' => e = .returned (.tuple #[.slice none 0 0, .int .i64 3]) ∧ Below w.heap.size w w' := by
  have hb0 : ∀ o, Below w.heap.size w (w.alloc o) := fun o => (Below.refl _ w).alloc (Nat.le_refl _) o
  obtain ⟨hm, hk1, hk9⟩ := mk_form h
  obtain ⟨ha1, ha3⟩ := addr_form ha
  have c1 := fun w => refHasNS_any k w
  have c2 := fun w => refHasNR_any k w
  have c3 := fun w => refNumber_any m ns (hasS k) w
  have c4 := fun w => refNumber_any m nr (hasR k) w
  simp only [Bool.and_eq_true] at hn
  rw [hn.1] at c3
  rw [hn.2] at c4
  clear hn h
  generalize hasS k = s at c1 c3
  generalize hasR k = r at c2 c4
  rcases hm with rfl | rfl
  all_goals
    go_enter Tryz.func33, Tryz.ntmps33
    go_wp2_with fail
    refine (c1 _).mono ?_
    rintro e W1 ⟨rfl, rfl⟩
    go_wp2_with fail
    refine (c2 _).mono ?_
    rintro e W1 ⟨rfl, rfl⟩
    go_wp2_with fail
    refine (c3 _).mono ?_
    rintro e W1 ⟨rfl, rfl⟩
    go_wp2_with fail
    refine (c4 _).mono ?_
    rintro e W1 ⟨rfl, rfl⟩
    go_wp2
    exact bodyPost_ret (v := .tuple #[.slice none 0 0, .int .i64 3]) (by simp [results, Tryz.results33, go_sem]) rfl ⟨rfl, hb0 _⟩

set_option maxHeartbeats 2000000 in
set_option maxRecDepth 100000 in
theorem refWrite_info (m a k ns nr : Int) (p : Bool) (q : Option Addr) (n c : Nat) (w : World) (h : (isMod m && isKd k) = true) (hn : (numF m ns (hasS k) && numF m nr (hasR k)) = true) (ha : isAddr a = true) (hi : infoF m k n = false) :
    Calls Tryz.prog 33 #[.int .i64 m, .agg #[.int .i64 a, .int .i64 k, .bool p, .int .i64 ns, .int .i64 nr, .slice q n c]] w fun e w' => e = .returned (.tuple #[.slice none 0 0, .int .i64 5]) ∧ Below w.heap.size w w' := by
  have hb0 : ∀ o, Below w.heap.size w (w.alloc o) := fun o => (Below.refl _ w).alloc (Nat.le_refl _) o
  obtain ⟨hm, hk1, hk9⟩ := mk_form h
  have c5 := fun w => refInfos_any m k n w
  rw [hi] at c5
  have c1 := fun w => refHasNS_any k w
  have c2 := fun w => refHasNR_any k w
  have c3 := fun w => refNumber_any m ns (hasS k) w
  have c4 := fun w => refNumber_any m nr (hasR k) w
  simp only [Bool.and_eq_true] at hn
  rw [hn.1] at c3
  rw [hn.2] at c4
  clear hn h
  generalize hasS k = s at c1 c3
  generalize hasR k = r at c2 c4
  have ha' : a = 1 ∨ a = 3 := by simpa [isAddr] using ha
  clear ha hi
  rcases ha' with rfl | rfl
  all_goals
    rcases hm with rfl | rfl
    all_goals
      go_enter Tryz.func33, Tryz.ntmps33
      go_wp2_with fail
      refine (c1 _).mono ?_
      rintro e W1 ⟨rfl, rfl⟩
      go_wp2_with fail
      refine (c2 _).mono ?_
      rintro e W1 ⟨rfl, rfl⟩
      go_wp2_with fail
      refine (c3 _).mono ?_
      rintro e W1 ⟨rfl, rfl⟩
      go_wp2_with fail
      refine (c4 _).mono ?_
      rintro e W1 ⟨rfl, rfl⟩
      go_wp2_with fail
      refine (c5 _).mono ?_
      rintro e W1 ⟨rfl, rfl⟩
      go_wp2
      exact bodyPost_ret (v := .tuple #[.slice none 0 0, .int .i64 5]) (by simp [results, Tryz.results33, go_sem]) rfl ⟨rfl, hb0 _⟩

theorem owns_lit (W : World) (base : Nat) (x : UInt8) (h : base ≤ W.heap.size) : (W.alloc (.cells #[.int .u8 (x.toNat : Int)] 5)).ownsRow base 5 1 (.slice (some ⟨W.heap.size, 0, none⟩) 1 1) 1 (Lib.byteCells [x]) :=
  ⟨rfl, .inr ⟨W.heap.size, 1, _, rfl, h, Array.getElem?_push_size, Nat.le_refl _, by unfold maxLen; omega, rfl, rfl⟩⟩

theorem news_one (W : World) (x : Int) : ∀ j u, [Value.int .u8 x][j]? = some u → (W.alloc (.cells #[.int .u8 x] 5)).cell? ((⟨W.heap.size, 0, none⟩ : Addr).add j) = some u := by
  intro j u hj
  match j, hj with
  | 0, hj => simp at hj; subst hj; simp [Addr.add]

theorem news_two (W : World) (x y : Int) : ∀ j u, [Value.int .u8 x, Value.int .u8 y][j]? = some u → (W.alloc (.cells #[.int .u8 x, .int .u8 y] 5)).cell? ((⟨W.heap.size, 0, none⟩ : Addr).add j) = some u := by
  intro j u hj
  match j, hj with
  | 0, hj => simp at hj; subst hj; simp [Addr.add]
  | 1, hj => simp at hj; subst hj; simp [Addr.add]

end Go.Proofs.YtkalonhalhdlaaaGreatDoor
