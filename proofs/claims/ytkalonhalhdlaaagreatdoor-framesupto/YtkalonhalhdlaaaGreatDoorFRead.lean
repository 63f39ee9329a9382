/-
  What one call of readKind, of readControl and of Read does.
-/
import Derived.Test.YtkalonhalhdlaaaGreatDoorFCtl
import Derived.Test.YtkalonhalhdlaaaGreatDoorFCat
namespace Go.Proofs.YtkalonhalhdlaaaGreatDoor
open Go.RowKit

theorem isMod_nat {m : Int} (h : isMod m = true) : ∃ m' : Nat, m = m' ∧ (m' = 8 ∨ m' = 128) := by
  simp [isMod] at h
  rcases h with rfl | rfl
  · exact ⟨8, rfl, .inl rfl⟩
  · exact ⟨128, rfl, .inr rfl⟩

set_option maxHeartbeats 1000000 in
set_option maxRecDepth 100000 in
theorem readKind_mod (m : Int) (v : Value) (w : World) (h : isMod m = false) :
    Calls Tryz.prog 83 #[.int .i64 m, v] w fun e w' => e = .returned (.tuple #[.int .i64 0, .int .i64 1]) ∧ ∃ n, w' = w.drewN n := by
  have c1 := fun w => isModulo_any m w
  rw [h] at c1
  go_enter Tryz.func83, Tryz.ntmps83
  go_wp2_with fail
  refine (c1 _).mono ?_
  rintro e W1 ⟨rfl, rfl⟩
  go_wp2
  exact bodyPost_ret (v := .tuple #[.int .i64 0, .int .i64 1]) (by simp [results, Tryz.results83, go_sem]) rfl ⟨rfl, 0, rfl⟩

set_option maxHeartbeats 1000000 in
set_option maxRecDepth 100000 in
theorem readKind_nil (m : Int) (p : Option Addr) (c : Nat) (w : World) (h : isMod m = true) :
    Calls Tryz.prog 83 #[.int .i64 m, .slice p 0 c] w fun e w' => e = .returned (.tuple #[.int .i64 0, .int .i64 2]) ∧ ∃ n, w' = w.drewN n := by
  have c1 := fun w => isModulo_any m w
  rw [h] at c1
  go_enter Tryz.func83, Tryz.ntmps83
  go_wp2_with fail
  refine (c1 _).mono ?_
  rintro e W1 ⟨rfl, rfl⟩
  go_wp2
  exact bodyPost_ret (v := .tuple #[.int .i64 0, .int .i64 2]) (by simp [results, Tryz.results83, go_sem]) rfl ⟨rfl, 0, rfl⟩

set_option maxHeartbeats 1000000 in
set_option maxRecDepth 100000 in
theorem readKind_addr (m : Int) (b off n c : Nat) (x : UInt8) (w : World) (h : isMod m = true) (hn : 0 < n) (hx : w.cell? ⟨b, off, none⟩ = some (.int .u8 (x.toNat : Int))) (ha : isAddr x.toNat = false) :
    Calls Tryz.prog 83 #[.int .i64 m, .slice (some ⟨b, off, none⟩) n c] w fun e w' => e = .returned (.tuple #[.int .i64 0, .int .i64 3]) ∧ ∃ n, w' = w.drewN n := by
  have c1 := fun w => isModulo_any m w
  have c2 := fun w => isAddress_any x.toNat w
  rw [h] at c1
  rw [ha] at c2
  have hx8 : x.toNat < 256 := x.toNat_lt
  have hn1 : ¬ ((n : Int) = 0) := by omega
  have hn2 : (0 : Int) < (n : Int) := by omega
  go_enter Tryz.func83, Tryz.ntmps83
  go_wp2_with fail
  refine (c1 _).mono ?_
  rintro e W1 ⟨rfl, rfl⟩
  go_wp2_with fail
  refine (c2 _).mono ?_
  rintro e W2 ⟨rfl, rfl⟩
  go_wp2
  exact bodyPost_ret (v := .tuple #[.int .i64 0, .int .i64 3]) (by simp [results, Tryz.results83, go_sem]) rfl ⟨rfl, 0, rfl⟩

set_option maxHeartbeats 1000000 in
set_option maxRecDepth 100000 in
theorem readKind_one (m : Int) (b off c : Nat) (x : UInt8) (w : World) (h : isMod m = true) (hx : w.cell? ⟨b, off, none⟩ = some (.int .u8 (x.toNat : Int))) (ha : isAddr x.toNat = true) :
    Calls Tryz.prog 83 #[.int .i64 m, .slice (some ⟨b, off, none⟩) 1 c] w fun e w' => e = .returned (.tuple #[.int .i64 0, .int .i64 2]) ∧ ∃ n, w' = w.drewN n := by
  have c1 := fun w => isModulo_any m w
  have c2 := fun w => isAddress_any x.toNat w
  rw [h] at c1
  rw [ha] at c2
  have hx8 : x.toNat < 256 := x.toNat_lt
  go_enter Tryz.func83, Tryz.ntmps83
  go_wp2_with fail
  refine (c1 _).mono ?_
  rintro e W1 ⟨rfl, rfl⟩
  go_wp2_with fail
  refine (c2 _).mono ?_
  rintro e W2 ⟨rfl, rfl⟩
  go_wp2
  exact bodyPost_ret (v := .tuple #[.int .i64 0, .int .i64 2]) (by simp [results, Tryz.results83, go_sem]) rfl ⟨rfl, 0, rfl⟩

theorem drewN_add (w : World) (a b : Nat) : (w.drewN a).drewN b = w.drewN (a + b) := by
  induction b with
  | zero => rfl
  | succ b ih => show ((w.drewN a).drewN b).drew = (w.drewN (a + b)).drew; rw [ih]
theorem drew2 {w w' : World} {a : Nat} (h : w' = w.drewN a) (b : Nat) : ∃ n, w'.drewN b = w.drewN n := ⟨a + b, by rw [h, drewN_add]⟩

/-- What readKind gives behind the address. -/
def kindR (o : Option Nat) : Nat × Nat := match o with
  | some k => (k, 0)
  | none => (0, 4)

set_option maxHeartbeats 2000000 in
set_option maxRecDepth 100000 in
theorem readKind_ctl (m b off n c : Nat) (x y : UInt8) (w : World) (h : m = 8 ∨ m = 128) (hn : 1 < n) (hx : w.cell? ⟨b, off, none⟩ = some (.int .u8 (x.toNat : Int))) (hy : w.cell? ⟨b, off + 1, none⟩ = some (.int .u8 (y.toNat : Int))) (ha : isAddr x.toNat = true) (hC : Ctl w) :
    Calls Tryz.prog 83 #[.int .i64 m, .slice (some ⟨b, off, none⟩) n c] w fun e w' => e = .returned (.tuple #[.int .i64 ((kindR (kindFrom m y.toNat 1 9)).1 : Nat), .int .i64 ((kindR (kindFrom m y.toNat 1 9)).2 : Nat)]) ∧ ∃ n, w' = w.drewN n := by
  have c1 := fun w => isModulo_any m w
  have c2 := fun w => isAddress_any x.toNat w
  have hm : isMod m = true := by rcases h with rfl | rfl <;> rfl
  rw [hm] at c1
  rw [ha] at c2
  have hx8 : x.toNat < 256 := x.toNat_lt
  have hy8 : y.toNat < 256 := y.toNat_lt
  have hn1 : ¬ ((n : Int) = 0) := by omega
  have hn2 : ¬ ((n : Int) = 1) := by omega
  have hn3 : (0 : Int) < (n : Int) := by omega
  have hn4 : (1 : Int) < (n : Int) := by omega
  go_enter Tryz.func83, Tryz.ntmps83
  go_wp2_with fail
  refine (c1 _).mono ?_
  rintro e W1 ⟨rfl, rfl⟩
  go_wp2_with fail
  refine (c2 _).mono ?_
  rintro e W2 ⟨rfl, rfl⟩
  go_wp2
  clear c1 c2 hx
  go_loopw [6] (fun i wr => ∃ (k nd : Nat), 1 ≤ k ∧ k ≤ 10 ∧ i = .int .i64 k ∧ wr = W2.drewN nd ∧ kindFrom m y.toNat k (10 - k) = kindFrom m y.toNat 1 9) (fun i _ => 10 - (intOf i).toNat)
  case atStart => exact ⟨1, 0, by omega, by omega, rfl, rfl, rfl⟩
  case round =>
    obtain ⟨k, nd, hk1, hk10, rfl, hwr, hkf⟩ := hrel
    have hyw : wr.cell? ⟨b, off + 1, none⟩ = some (.int .u8 (y.toNat : Int)) := by rw [hwr]; simpa using hy
    have hCw : Ctl wr := by intro i hi; rw [hwr]; simpa using hC i hi
    have HW : Hid (wr = W2.drewN nd) := hwr
    clear hwr hy hC
    by_cases hk9 : k ≤ 9
    · have q1 := fun w => kindBits_any m k hk1 w
      have q2 := fun n => plainControl_any m k hk9 (wr.drewN n) (fun i hi => by simpa using hCw i hi)
      have hand : bits .and .u8 (y.toNat : Int) (maskN m k : Nat) = ((y.toNat &&& maskN m k : Nat) : Int) := u8_and_nat _ _ hy8 (maskN_lt m k)
      have e10 : 10 - k = (10 - (k + 1)) + 1 := by omega
      rw [e10, kindFrom] at hkf
      generalize maskN m k = mk at hand q1 hkf
      generalize baseN m k = bs at q2 hkf
      by_cases hq : y.toNat &&& mk = bs
      · rw [if_pos hq] at hkf
        have hqi : ((y.toNat &&& mk : Nat) : Int) = (bs : Int) := by omega
        have HK := hide hkf
        clear hkf hq
        go_wp2
        go_quiet (first | (go_at_call 117; exact Calls.quiet_of_same (q1 _)) | (go_at_call 115; exact Calls.quiet_of_same (q2 _)))
        go_wp2
        exact bodyPost_ret (v := .tuple #[.int .i64 (k : Nat), .int .i64 0]) (by simp [results, Tryz.results83, go_sem]) rfl ⟨by rw [← unhide HK]; rfl, drew2 HW.out _⟩
      · rw [if_neg hq] at hkf
        have hqi : ¬ ((y.toNat &&& mk : Nat) : Int) = (bs : Int) := by omega
        have HK := hide hkf
        clear hkf hq
        go_wp2
        go_quiet (first | (go_at_call 117; exact Calls.quiet_of_same (q1 _)) | (go_at_call 115; exact Calls.quiet_of_same (q2 _)))
        go_wp2
        go_roundw
        case rel => exact ⟨k + 1, (drew2 HW.out _).choose, by omega, by omega, by go_num, (drew2 HW.out _).choose_spec, unhide HK⟩
        case measure => simp [intOf]; omega
    · obtain rfl : k = 10 := by omega
      have HK := hide hkf
      clear hkf
      go_wp2
      exact bodyPost_ret (v := .tuple #[.int .i64 0, .int .i64 4]) (by simp [results, Tryz.results83, go_sem]) rfl ⟨by rw [← unhide HK]; rfl, nd, HW.out⟩
end Go.Proofs.YtkalonhalhdlaaaGreatDoor
