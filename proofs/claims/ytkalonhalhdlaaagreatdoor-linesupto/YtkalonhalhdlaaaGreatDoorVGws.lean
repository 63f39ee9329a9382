import Derived.Test.YtkalonhalhdlaaaGreatDoorGSmall
import Derived.Test.YtkalonhalhdlaaaGreatDoorFWrite
import Derived.Deep.Cut
import Derived.Deep.CutRange
import Derived.Deep.CutBlock
import Derived.Test.YtkalonhalhdlaaaGreatDoorFCells
/-
  What one call of the document's own Write does: what the code's does, in plain words.
-/
namespace Go.Proofs.YtkalonhalhdlaaaGreatDoor
open Go.RowKit

set_option maxHeartbeats 2000000 in
set_option maxRecDepth 100000 in
theorem refWrite_arg1 (m a k ns nr : Int) (p : Bool) (v : Value) (w : World) (h : (isMod m && isKd k) = false) :
    Calls Tryz.prog 33 #[.int .i64 m, .agg #[.int .i64 a, .int .i64 k, .bool p, .int .i64 ns, .int .i64 nr, v]] w fun e w' => e = .returned (.tuple #[.slice none 0 0, .int .i64 1]) ∧ Below w.heap.size w w' := by
  have hb0 : ∀ o, Below w.heap.size w (w.alloc o) := fun o => (Below.refl _ w).alloc (Nat.le_refl _) o
  by_cases hm8 : m = 8
  · subst hm8
    by_cases hk1 : k < 1
    · go_enter Tryz.func33, Tryz.ntmps33
      go_wp2
      exact bodyPost_ret (v := .tuple #[.slice none 0 0, .int .i64 1]) (by simp [results, Tryz.results33, go_sem]) rfl ⟨rfl, hb0 _⟩
    · have hk9 : 9 < k := by simp [isMod, isKd] at h; omega
      go_enter Tryz.func33, Tryz.ntmps33
      go_wp2
      exact bodyPost_ret (v := .tuple #[.slice none 0 0, .int .i64 1]) (by simp [results, Tryz.results33, go_sem]) rfl ⟨rfl, hb0 _⟩
  · by_cases hm128 : m = 128
    · subst hm128
      by_cases hk1 : k < 1
      · go_enter Tryz.func33, Tryz.ntmps33
        go_wp2
        exact bodyPost_ret (v := .tuple #[.slice none 0 0, .int .i64 1]) (by simp [results, Tryz.results33, go_sem]) rfl ⟨rfl, hb0 _⟩
      · have hk9 : 9 < k := by simp [isMod, isKd] at h; omega
        go_enter Tryz.func33, Tryz.ntmps33
        go_wp2
        exact bodyPost_ret (v := .tuple #[.slice none 0 0, .int .i64 1]) (by simp [results, Tryz.results33, go_sem]) rfl ⟨rfl, hb0 _⟩
    · go_enter Tryz.func33, Tryz.ntmps33
      go_wp2
      exact bodyPost_ret (v := .tuple #[.slice none 0 0, .int .i64 1]) (by simp [results, Tryz.results33, go_sem]) rfl ⟨rfl, hb0 _⟩

/-- Modulo and kind may be: the test's own form. -/
theorem mk_form {m k : Int} (h : (isMod m && isKd k) = true) : (m = 8 ∨ m = 128) ∧ ¬ k < 1 ∧ ¬ 9 < k := by
  simp [isMod, isKd] at h
  omega

set_option maxHeartbeats 2000000 in
set_option maxRecDepth 100000 in
theorem refWrite_arg2 (m a k ns nr : Int) (p : Bool) (v : Value) (w : World) (h : (isMod m && isKd k) = true) (hn : (numF m ns (hasS k) && numF m nr (hasR k)) = false) :
    Calls Tryz.prog 33 #[.int .i64 m, .agg #[.int .i64 a, .int .i64 k, .bool p, .int .i64 ns, .int .i64 nr, v]] w fun e w' => e = .returned (.tuple #[.slice none 0 0, .int .i64 1]) ∧ Below w.heap.size w w' := by
  have hb0 : ∀ o, Below w.heap.size w (w.alloc o) := fun o => (Below.refl _ w).alloc (Nat.le_refl _) o
  obtain ⟨hm, hk1, hk9⟩ := mk_form h
  have c1 := fun w => refHasNS_any k w
  have c2 := fun w => refHasNR_any k w
  have c3 := fun w => refNumber_any m ns (hasS k) w
  have c4 := fun w => refNumber_any m nr (hasR k) w
  generalize numF m nr (hasR k) = y at c4 hn
  generalize numF m ns (hasS k) = x at c3 hn
  generalize hasS k = s at c1 c3
  generalize hasR k = r at c2 c4
  clear h
  have hmx : ((m != 8) && (m != 128)) = false := by rcases hm with rfl | rfl <;> rfl
  cases x with
  | false =>
    rcases hm with rfl | rfl
    all_goals
      go_enter Tryz.func33, Tryz.ntmps33
      go_wp2_with fail
      refine (c1 _).mono ?_
      rintro e W1 ⟨rfl, rfl⟩
      go_wp2_with fail
      refine (c2 _).mono ?_
      rintro e W1 ⟨rfl, rfl⟩
      go_wp2_with fail
      refine (c3 _).mono ?_
      rintro e W1 ⟨rfl, rfl⟩
      go_wp2_with fail
      refine (c4 _).mono ?_
      rintro e W1 ⟨rfl, rfl⟩
      go_wp2
      exact bodyPost_ret (v := .tuple #[.slice none 0 0, .int .i64 1]) (by simp [results, Tryz.results33, go_sem]) rfl ⟨rfl, hb0 _⟩
  | true =>
    simp at hn
    subst hn
    rcases hm with rfl | rfl
    all_goals
      go_enter Tryz.func33, Tryz.ntmps33
      go_wp2_with fail
      refine (c1 _).mono ?_
      rintro e W1 ⟨rfl, rfl⟩
      go_wp2_with fail
      refine (c2 _).mono ?_
      rintro e W1 ⟨rfl, rfl⟩
      go_wp2_with fail
      refine (c3 _).mono ?_
      rintro e W1 ⟨rfl, rfl⟩
      go_wp2_with fail
      refine (c4 _).mono ?_
      rintro e W1 ⟨rfl, rfl⟩
      go_wp2
      exact bodyPost_ret (v := .tuple #[.slice none 0 0, .int .i64 1]) (by simp [results, Tryz.results33, go_sem]) rfl ⟨rfl, hb0 _⟩
end Go.Proofs.YtkalonhalhdlaaaGreatDoor

/-
  What one call of the document's own Write does where the numbers may be.
-/
namespace Go.Proofs.YtkalonhalhdlaaaGreatDoor
open Go.RowKit

theorem addr_form {a : Int} (h : isAddr a = false) : (a != 1) = true ∧ (a != 3) = true := by
  simp [isAddr] at h
  simp [h.1, h.2]

set_option maxHeartbeats 2000000 in
set_option maxRecDepth 100000 in
theorem refWrite_addr (m a k ns nr : Int) (p : Bool) (v : Value) (w : World) (h : (isMod m && isKd k) = true) (hn : (numF m ns (hasS k) && numF m nr (hasR k)) = true) (ha : isAddr a = false) :
    Calls Tryz.prog 33 #[.int .i64 m, .agg #[.int .i64 a, .int .i64 k, .bool p, .int .i64 ns, .int .i64 nr, v]] w fun e w' => e = .returned (.tuple #[.slice none 0 0, .int .i64 3]) ∧ Below w.heap.size w w' := by
  have hb0 : ∀ o, Below w.heap.size w (w.alloc o) := fun o => (Below.refl _ w).alloc (Nat.le_refl _) o
  obtain ⟨hm, hk1, hk9⟩ := mk_form h
  obtain ⟨ha1, ha3⟩ := addr_form ha
  have c1 := fun w => refHasNS_any k w
  have c2 := fun w => refHasNR_any k w
  have c3 := fun w => refNumber_any m ns (hasS k) w
  have c4 := fun w => refNumber_any m nr (hasR k) w
  simp only [Bool.and_eq_true] at hn
  rw [hn.1] at c3
  rw [hn.2] at c4
  clear hn h
  generalize hasS k = s at c1 c3
  generalize hasR k = r at c2 c4
  rcases hm with rfl | rfl
  all_goals
    go_enter Tryz.func33, Tryz.ntmps33
    go_wp2_with fail
    refine (c1 _).mono ?_
    rintro e W1 ⟨rfl, rfl⟩
    go_wp2_with fail
    refine (c2 _).mono ?_
    rintro e W1 ⟨rfl, rfl⟩
    go_wp2_with fail
    refine (c3 _).mono ?_
    rintro e W1 ⟨rfl, rfl⟩
    go_wp2_with fail
    refine (c4 _).mono ?_
    rintro e W1 ⟨rfl, rfl⟩
    go_wp2
    exact bodyPost_ret (v := .tuple #[.slice none 0 0, .int .i64 3]) (by simp [results, Tryz.results33, go_sem]) rfl ⟨rfl, hb0 _⟩

set_option maxHeartbeats 2000000 in
set_option maxRecDepth 100000 in
theorem refWrite_info (m a k ns nr : Int) (p : Bool) (q : Option Addr) (n c : Nat) (w : World) (h : (isMod m && isKd k) = true) (hn : (numF m ns (hasS k) && numF m nr (hasR k)) = true) (ha : isAddr a = true) (hi : infoF m k n = false) :
    Calls Tryz.prog 33 #[.int .i64 m, .agg #[.int .i64 a, .int .i64 k, .bool p, .int .i64 ns, .int .i64 nr, .slice q n c]] w fun e w' => e = .returned (.tuple #[.slice none 0 0, .int .i64 5]) ∧ Below w.heap.size w w' := by
  have hb0 : ∀ o, Below w.heap.size w (w.alloc o) := fun o => (Below.refl _ w).alloc (Nat.le_refl _) o
  obtain ⟨hm, hk1, hk9⟩ := mk_form h
  have c5 := fun w => refInfos_any m k n w
  rw [hi] at c5
  have c1 := fun w => refHasNS_any k w
  have c2 := fun w => refHasNR_any k w
  have c3 := fun w => refNumber_any m ns (hasS k) w
  have c4 := fun w => refNumber_any m nr (hasR k) w
  simp only [Bool.and_eq_true] at hn
  rw [hn.1] at c3
  rw [hn.2] at c4
  clear hn h
  generalize hasS k = s at c1 c3
  generalize hasR k = r at c2 c4
  have ha' : a = 1 ∨ a = 3 := by simpa [isAddr] using ha
  clear ha hi
  rcases ha' with rfl | rfl
  all_goals
    rcases hm with rfl | rfl
    all_goals
      go_enter Tryz.func33, Tryz.ntmps33
      go_wp2_with fail
      refine (c1 _).mono ?_
      rintro e W1 ⟨rfl, rfl⟩
      go_wp2_with fail
      refine (c2 _).mono ?_
      rintro e W1 ⟨rfl, rfl⟩
      go_wp2_with fail
      refine (c3 _).mono ?_
      rintro e W1 ⟨rfl, rfl⟩
      go_wp2_with fail
      refine (c4 _).mono ?_
      rintro e W1 ⟨rfl, rfl⟩
      go_wp2_with fail
      refine (c5 _).mono ?_
      rintro e W1 ⟨rfl, rfl⟩
      go_wp2
      exact bodyPost_ret (v := .tuple #[.slice none 0 0, .int .i64 5]) (by simp [results, Tryz.results33, go_sem]) rfl ⟨rfl, hb0 _⟩

theorem owns_lit (W : World) (base : Nat) (x : UInt8) (h : base ≤ W.heap.size) : (W.alloc (.cells #[.int .u8 (x.toNat : Int)] 5)).ownsRow base 5 1 (.slice (some ⟨W.heap.size, 0, none⟩) 1 1) 1 (Lib.byteCells [x]) :=
  ⟨rfl, .inr ⟨W.heap.size, 1, _, rfl, h, Array.getElem?_push_size, Nat.le_refl _, by unfold maxLen; omega, rfl, rfl⟩⟩

theorem news_one (W : World) (x : Int) : ∀ j u, [Value.int .u8 x][j]? = some u → (W.alloc (.cells #[.int .u8 x] 5)).cell? ((⟨W.heap.size, 0, none⟩ : Addr).add j) = some u := by
  intro j u hj
  match j, hj with
  | 0, hj => simp at hj; subst hj; simp [Addr.add]

theorem news_two (W : World) (x y : Int) : ∀ j u, [Value.int .u8 x, Value.int .u8 y][j]? = some u → (W.alloc (.cells #[.int .u8 x, .int .u8 y] 5)).cell? ((⟨W.heap.size, 0, none⟩ : Addr).add j) = some u := by
  intro j u hj
  match j, hj with
  | 0, hj => simp at hj; subst hj; simp [Addr.add]
  | 1, hj => simp at hj; subst hj; simp [Addr.add]

end Go.Proofs.YtkalonhalhdlaaaGreatDoor

/-
  Bytes that are handed over; where there are none, their address may be any.
-/
namespace Go.Proofs.YtkalonhalhdlaaaGreatDoor
open Go.RowKit

def SrcE (w : World) (q : Option Addr) (l : List UInt8) : Prop := (q = none ∧ l = []) ∨ ∃ ad : Addr, q = some ad ∧ ∀ j u, (Lib.byteCells l)[j]? = some u → w.cell? (ad.add j) = some u
theorem SrcIs.e {w : World} {q : Option Addr} {l : List UInt8} (h : SrcIs w q l) : SrcE w q l := by
  rcases h with h | ⟨b, off, e, _, h⟩
  · exact .inl h
  · exact .inr ⟨⟨b, off, none⟩, e, h.news⟩
theorem SrcE.below {w w' : World} {q : Option Addr} {l : List UInt8} (h : SrcE w q l) {B : Nat} (hb : Below B w w') (hB : w.heap.size ≤ B) : SrcE w' q l := by
  rcases h with h | ⟨ad, e, h⟩
  · exact .inl h
  · refine .inr ⟨ad, e, fun j u hj => ?_⟩
    have hc := h j u hj
    have hlt := World.block_lt_of_cell? w _ hc
    rw [hb.cell (p := ad.add j) (Nat.lt_of_lt_of_le hlt hB)]
    exact hc
theorem SrcE.conv {w : World} {p : Option Addr} {l : List UInt8} (h : SrcE w p l) (cap : Nat) : (convert 28 9 (.slice p l.length cap)).run Tryz.prog w = .ok (.string ⟨l.toArray⟩) w := by
  have hin : Lib.BytesIn w p l.length (nums l) := by
    rcases h with ⟨rfl, rfl⟩ | ⟨ad, rfl, hseg⟩
    · exact Lib.BytesIn.nil _ _ _
    · refine Lib.BytesIn.of_cells fun i hi => ?_
      have hl : (Lib.byteCells l)[i]? = some (.int .u8 ((l.getD i 0).toNat : Int)) := by
        simp [Lib.byteCells, List.getD, hi]
      rw [hseg i _ hl, nums_getD l i hi]
  have := hin.convert (nums_length _) cap 28 5 9 Tryz.underlying28 Tryz.underlying5 Tryz.underlying9
  rw [this]
  have e : strOfNums (nums l) = ⟨(Lib.bytesOf (nums l)).toArray⟩ := rfl
  rw [e, bytesOf_nums]
end Go.Proofs.YtkalonhalhdlaaaGreatDoor

/-
  What one call of the document's own Write does where a frame is written.
-/
namespace Go.Proofs.YtkalonhalhdlaaaGreatDoor
open Go.RowKit

theorem wrap_first {b ns : Nat} (h : b + 2 * ns < 256) : IntKind.i64.wrap ((b : Int) + IntKind.i64.wrap (2 * (ns : Int))) = ((b + 2 * ns : Nat) : Int) := by
  simp only [IntKind.wrap_i64]
  omega

theorem row_all6 {w : World} {base n : Nat} {v : Value} {xs : List Value} (h : w.ownsRow base 5 1 v n xs) (h0 : 0 < n) : ∃ g cap, v = .slice (some ⟨g, 0, none⟩) n cap ∧ base ≤ g ∧ n ≤ cap := by
  rcases h.2 with ⟨_, h1⟩ | ⟨g, cap, cur, rfl, h2, _, h3, _⟩
  · omega
  · exact ⟨g, cap, rfl, h2, h3⟩

set_option maxHeartbeats 4000000 in
set_option maxRecDepth 100000 in
theorem refWrite_ok (m k ns nr : Nat) (a : Int) (p : Bool) (q : Option Addr) (l : List UInt8) (c : Nat) (w : World) (ok : NumOk m k ns nr) (ha : isAddr a = true) (hi : infoF m k l.length = true) (hsrc : SrcE w q l) :
    Calls Tryz.prog 33 #[.int .i64 m, .agg #[.int .i64 a, .int .i64 k, .bool p, .int .i64 ns, .int .i64 nr, .slice q l.length c]] w fun e w' => ∃ v, e = .returned (.tuple #[v, .int .i64 0]) ∧ w'.ownsRow w.heap.size 5 1 v (1 + cbN m k + l.length) (Lib.byteCells (UInt8.ofNat a.toNat :: (ctlL m k ns nr p ++ l))) ∧ Below w.heap.size w w' := by
  have hb0 : ∀ o, Below w.heap.size w (w.alloc o) := fun o => (Below.refl _ w).alloc (Nat.le_refl _) o
  have hk := ok.2.1
  have hk9 := ok.2.2.1
  have hm := ok.1
  have hn := numOk_true ok
  have h1 := first_lt ok
  have c1 := fun w => refHasNS_any k w
  have c2 := fun w => refHasNR_any k w
  have c3 := fun w => refNumber_any m ns (hasS k) w
  have c4 := fun w => refNumber_any m nr (hasR k) w
  have c5 := fun w => refInfos_any m k l.length w
  have c6 := fun w => refBase_any m k hk9 w
  simp only [Bool.and_eq_true] at hn
  rw [hn.1] at c3
  rw [hn.2] at c4
  rw [hi] at c5
  have hl : l.length ≤ 32 := by
    unfold infoF repN at hi
    split at hi
    · have := of_decide_eq_true hi; omega
    · split at hi
      · have := eq_of_beq hi; split at this <;> omega
      · have := eq_of_beq hi; omega
  clear hn hi
  have hrk : hasR k = decide (k ≤ 4) := by
    by_cases h : k ≤ 4
    · simp [hasR, h]; omega
    · simp [hasR, h]; omega
  generalize hasS k = s at c1 c3
  rw [hrk] at c2 c4
  clear hrk
  obtain ⟨x, hx, hwa⟩ : ∃ x : UInt8, UInt8.ofNat a.toNat = x ∧ IntKind.u8.wrap a = (x.toNat : Int) := ⟨_, rfl, addr_byte ha⟩
  have g1 : ¬ ((k : Int) < 1) := by omega
  have g2 : ¬ ((9 : Int) < (k : Int)) := by omega
  have ha' : a = 1 ∨ a = 3 := by simpa [isAddr] using ha
  obtain ⟨i0, hi0, hz0, hz1', hz2'⟩ := info_parts infoByte
  go_enter Tryz.func33, Tryz.ntmps33
  go_upto_region 1 with fail
  go_cut [29] from 14 (fun s29 wx => s29 = .bool false ∧ wx = w.alloc (.cells #[.int .i64 a, .int .i64 k, .bool p, .int .i64 ns, .int .i64 nr, .slice q l.length c] 30))
  case first =>
    rcases hm with rfl | rfl
    · go_wp2
      go_meet
      case rel => exact ⟨rfl, rfl⟩
    · go_wp2
      go_meet
      case rel => exact ⟨rfl, rfl⟩
  case rest =>
    obtain ⟨rfl, rfl⟩ := hcut
    go_wp2_with fail
    refine (c1 _).mono ?_
    rintro e W1 ⟨rfl, rfl⟩
    go_wp2_with fail
    refine (c2 _).mono ?_
    rintro e W1 ⟨rfl, rfl⟩
    go_wp2_with fail
    refine (c3 _).mono ?_
    rintro e W1 ⟨rfl, rfl⟩
    go_wp2_with fail
    refine (c4 _).mono ?_
    rintro e W1 ⟨rfl, rfl⟩
    clear c1 c2 c3 c4
    go_upto_region 9 with fail
    go_cut [59] from 14 (fun s59 wx => s59 = .bool false ∧ wx = w.alloc (.cells #[.int .i64 a, .int .i64 k, .bool p, .int .i64 ns, .int .i64 nr, .slice q l.length c] 30))
    case first =>
      rcases ha' with rfl | rfl
      · go_wp2
        go_meet
        case rel => exact ⟨rfl, rfl⟩
      · go_wp2
        go_meet
        case rel => exact ⟨rfl, rfl⟩
    case rest =>
      obtain ⟨rfl, rfl⟩ := hcut
      go_wp2_with fail
      refine (c5 _).mono ?_
      rintro e W1 ⟨rfl, rfl⟩
      clear c5
      go_upto_if 70 with fail
      go_cut [11] from 14 (fun s11 wx => s11 = .int .i64 (bitN p 1 : Nat) ∧ wx = w.alloc (.cells #[.int .i64 a, .int .i64 k, .bool p, .int .i64 ns, .int .i64 nr, .slice q l.length c] 30))
      case first =>
        cases p
        · go_wp2
          go_meet
          case rel => exact ⟨rfl, rfl⟩
        · go_wp2
          go_meet
          case rel => exact ⟨rfl, rfl⟩
      case rest =>
        obtain ⟨rfl, hcut⟩ := hcut
        have hH : Held w.heap.size wc a k p ns nr (.slice q l.length c) wc := by
          rw [hcut]
          exact ⟨by simp, by simp, by simp, by simp, by simp, by simp, Below.refl _ _⟩
        have hW : w.heap.size + 1 ≤ wc.heap.size := by rw [hcut]; simp
        have hwW : Below w.heap.size w wc := by rw [hcut]; exact hb0 _
        clear hcut hb0
        go_wp2
        go_region_held3 (fun w' => Held w.heap.size wc a k p ns nr (.slice q l.length c) w') (first | exact Held.drew (by assumption) | exact Held.alloc (by assumption) hW _ | exact Held.of (by assumption) (by assumption) (by have h : Held w.heap.size wc a k p ns nr (.slice q l.length c) _ := (by assumption); exact Nat.le_trans hW h.2.2.2.2.2.2.size)) (first | (go_at_call 82; refine (c6 _).mono ?_; rintro e w5 ⟨rfl, hbl⟩))
        rw [wrap_first h1]
        have hb5 : Below (w.heap.size + 1) wc w5 := (Below.refl _ wc).drew.trans (hbl.mono hW)
        have hH5 := hH.of hb5 (Nat.le_refl _)
        have k0 := hH5.1
        have k4 := hH5.2.2.2.2.1
        have hz5 := hb5.size
        have hnr : nr < 128 := by
          by_cases e : k ≤ 4
          · have := ok.2.2.2.2.2.1 e; omega
          · have := ok.2.2.2.2.2.2 (by omega); omega
        have hbit := bitN_le p 1
        have HO5 := hide (owns_lit w5 w.heap.size x (by omega))
        have HAA := hide (fun o => (hH5.alloc hW o).2.2.2.2.1)
        clear c6 hbl hH5
        have k4a := unhide HAA
        by_cases hw : wide m k = true
        · have hcb : cbN m k = 2 := by simp [cbN, hw]
          have hmk : m = 128 ∧ k ≤ 4 := by simpa [wide] using hw
          have q1 : ((m : Int) == 128) = true := by simp; omega
          have q2 : decide (k ≤ 4) = true := by simp; omega
          have ctl : ctlL m k ns nr p = [UInt8.ofNat (baseN m k + 2 * ns), UInt8.ofNat (bitN p 1 + 2 * nr)] := by simp [ctlL, hw]
          have e2 : Lib.byteCells [x] ++ [.int .u8 ((baseN m k : Int) + 2 * (ns : Int)), .int .u8 ((bitN p 1 : Int) + 2 * (nr : Int))] = Lib.byteCells [x, UInt8.ofNat (baseN m k + 2 * ns), UInt8.ofNat (bitN p 1 + 2 * nr)] := by
            simp only [Lib.byteCells, List.map_cons, List.map_nil, u8n h1, u8n (show bitN p 1 + 2 * nr < 256 by omega)]
            rfl
          have HE2 := hide e2
          have HCTL := hide ctl
          have HCB := hide hcb
          clear e2 ctl hcb
          generalize baseN m k = bs at h1 HE2 HCTL
          generalize bitN p 1 = pb at hbit HE2 HCTL
          go_wp2_with (at_builtin; refine wpList_append_own _ rfl _ _ 28 rfl w.heap.size 5 i0 _ 1 1 Tryz.underlying28 hi0 hz0 hz1' hz2' rfl (by decide) _ _ _ rfl ((unhide HO5).alloc _) ⟨w5.heap.size + 1, 0, none⟩ 2 2 [.int .u8 ((bs : Int) + 2 * (ns : Int)), .int .u8 ((pb : Int) + 2 * (nr : Int))] rfl rfl ?a1 ?a2 ?a3 ?a4 ?a5 ?_)
          try case a1 =>
            intro j u hj
            match j, hj with
              | 0, hj => simp at hj; subst hj; simp [Addr.add]
              | 1, hj => simp at hj; subst hj; simp [Addr.add]
          try case a2 => intro u hu; simp at hu; first | (rcases hu with rfl | rfl <;> rfl) | (subst hu; rfl)
          try case a3 => unfold maxLen; omega
          try case a4 => omega
          try case a5 => simp; omega
          intro v6 w6 hown6 hg6 _
          rw [unhide HE2] at hown6
          have hb6 : Below (w.heap.size + 1) wc w6 := ((hb5.alloc (by omega) _).alloc (by simp; omega) _).grown hg6 (by simp; omega) (fun k hk => by simp [Value.ownBlock] at hk; omega)
          have hbw6 : Below w.heap.size w w6 := hwW.trans (hb6.mono (by omega))
          have k5 := (hH.of hb6 (Nat.le_refl _)).2.2.2.2.2.1
          obtain ⟨g6, cap6, rfl, hg61, hnc6⟩ := row_all6 hown6 (by omega)
          have hsrc6 := hsrc.below hbw6 (Nat.le_refl _)
          have hz6 := hbw6.size
          have HO6 := hide hown6
          have HBW := hide hbw6
          clear hown6 hg6 hb6 hbw6 HO5 hb5 hH k4a k4 k0
          rcases hsrc6 with ⟨rfl, rfl⟩ | ⟨adq, rfl, hsq⟩
          · go_wp2_with (at_builtin; refine wpList_append_nil _ rfl _ _ 28 rfl 5 i0 Tryz.underlying28 hi0 g6 _ cap6 c rfl hnc6 rfl ?_)
            go_wp2
            refine bodyPost_ret (v := .tuple #[.slice (some ⟨g6, 0, none⟩) 3 cap6, .int .i64 0]) (by simp [results, Tryz.results33, go_sem]) rfl ⟨_, rfl, ?_, unhide HBW⟩
            rw [unhide HCB, hx, unhide HCTL]
            have h := unhide HO6
            simpa using h
          · go_wp2_with (at_builtin; refine wpList_append_own _ rfl _ _ 28 rfl w.heap.size 5 i0 _ 1 1 Tryz.underlying28 hi0 hz0 hz1' hz2' rfl (by decide) _ _ _ rfl (unhide HO6) adq l.length c (Lib.byteCells l) rfl (by simp [Lib.byteCells]) ?zw1 ?zw2 ?zw3 ?zw4 ?zw5 ?_)
            try case zw1 => exact hsq
            try case zw2 => exact byteCells_one l
            try case zw3 => unfold maxLen; omega
            try case zw4 => omega
            try case zw5 => omega
            intro v7 w7 hown7 hg7 _
            have hbw7 : Below w.heap.size w w7 := (unhide HBW).grown hg7 hz6 (fun k hk => by simp [Value.ownBlock] at hk; omega)
            obtain ⟨q7, cp7, rfl⟩ := own_slice hown7
            have HO7 := hide hown7
            have HB7 := hide hbw7
            clear hown7 hg7 hbw7 HO6 HBW
            go_wp2
            refine bodyPost_ret (v := .tuple #[.slice q7 (3 + l.length) cp7, .int .i64 0]) (by simp [results, Tryz.results33, go_sem]) rfl ⟨_, rfl, ?_, unhide HB7⟩
            rw [unhide HCB, hx, unhide HCTL]
            have h := unhide HO7
            rw [← Lib.byteCells_append] at h
            simpa using h
        · have hcb : cbN m k = 1 := by simp [cbN, hw]
          have hlt := one_lt ok p hw
          have hb16 : bitN p 16 = 16 * bitN p 1 := by cases p <;> rfl
          have q12 : (((m : Int) == 128) && decide (k ≤ 4)) = false := by
            simp [wide] at hw ⊢
            omega
          have ctl : ctlL m k ns nr p = [UInt8.ofNat (baseN m k + 2 * ns + bitN p 16 + 32 * nr)] := by simp [ctlL, hw]
          have e0 : (((UInt8.ofNat (baseN m k + 2 * ns + bitN p 16 + 32 * nr)).toNat : Nat) : Int) = (baseN m k : Int) + 2 * (ns : Int) + 16 * (bitN p 1 : Int) + 32 * (nr : Int) := by rw [u8n hlt]; omega
          have e2 : Lib.byteCells [x] ++ [.int .u8 ((baseN m k : Int) + 2 * (ns : Int) + 16 * (bitN p 1 : Int) + 32 * (nr : Int))] = Lib.byteCells [x, UInt8.ofNat (baseN m k + 2 * ns + bitN p 16 + 32 * nr)] := by
            simp only [Lib.byteCells, List.map_cons, List.map_nil, e0]
            rfl
          clear e0
          rw [hb16] at hlt
          have HE2 := hide e2
          have HCTL := hide ctl
          have HCB := hide hcb
          clear e2 ctl hcb hb16
          generalize baseN m k = bs at h1 HE2 HCTL hlt
          generalize bitN p 1 = pb at hbit HE2 HCTL hlt
          have fin1 : m = 128 ∨ ¬ m = 128 := by omega
          rcases fin1 with h128 | h128
          · have q1 : ((m : Int) == 128) = true := by simp; omega
            have q2 : decide (k ≤ 4) = false := by rw [q1] at q12; simpa using q12
            clear h128
            go_wp2_with (at_builtin; refine wpList_append_own _ rfl _ _ 28 rfl w.heap.size 5 i0 _ 1 1 Tryz.underlying28 hi0 hz0 hz1' hz2' rfl (by decide) _ _ _ rfl ((unhide HO5).alloc _) ⟨w5.heap.size + 1, 0, none⟩ 1 1 [.int .u8 ((bs : Int) + 2 * (ns : Int) + 16 * (pb : Int) + 32 * (nr : Int))] rfl rfl ?b1 ?b2 ?b3 ?b4 ?b5 ?_)
            try case b1 =>
              intro j u hj
              match j, hj with
                | 0, hj => simp at hj; subst hj; simp [Addr.add]
            try case b2 => intro u hu; simp at hu; first | (rcases hu with rfl | rfl <;> rfl) | (subst hu; rfl)
            try case b3 => unfold maxLen; omega
            try case b4 => omega
            try case b5 => simp; omega
            intro v6 w6 hown6 hg6 _
            rw [unhide HE2] at hown6
            have hb6 : Below (w.heap.size + 1) wc w6 := ((hb5.alloc (by omega) _).alloc (by simp; omega) _).grown hg6 (by simp; omega) (fun k hk => by simp [Value.ownBlock] at hk; omega)
            have hbw6 : Below w.heap.size w w6 := hwW.trans (hb6.mono (by omega))
            have k5 := (hH.of hb6 (Nat.le_refl _)).2.2.2.2.2.1
            obtain ⟨g6, cap6, rfl, hg61, hnc6⟩ := row_all6 hown6 (by omega)
            have hsrc6 := hsrc.below hbw6 (Nat.le_refl _)
            have hz6 := hbw6.size
            have HO6 := hide hown6
            have HBW := hide hbw6
            clear hown6 hg6 hb6 hbw6 HO5 hb5 hH k4a k4 k0
            rcases hsrc6 with ⟨rfl, rfl⟩ | ⟨adq, rfl, hsq⟩
            · go_wp2_with (at_builtin; refine wpList_append_nil _ rfl _ _ 28 rfl 5 i0 Tryz.underlying28 hi0 g6 _ cap6 c rfl hnc6 rfl ?_)
              go_wp2
              refine bodyPost_ret (v := .tuple #[.slice (some ⟨g6, 0, none⟩) 2 cap6, .int .i64 0]) (by simp [results, Tryz.results33, go_sem]) rfl ⟨_, rfl, ?_, unhide HBW⟩
              rw [unhide HCB, hx, unhide HCTL]
              have h := unhide HO6
              simpa using h
            · go_wp2_with (at_builtin; refine wpList_append_own _ rfl _ _ 28 rfl w.heap.size 5 i0 _ 1 1 Tryz.underlying28 hi0 hz0 hz1' hz2' rfl (by decide) _ _ _ rfl (unhide HO6) adq l.length c (Lib.byteCells l) rfl (by simp [Lib.byteCells]) ?zb1 ?zb2 ?zb3 ?zb4 ?zb5 ?_)
              try case zb1 => exact hsq
              try case zb2 => exact byteCells_one l
              try case zb3 => unfold maxLen; omega
              try case zb4 => omega
              try case zb5 => omega
              intro v7 w7 hown7 hg7 _
              have hbw7 : Below w.heap.size w w7 := (unhide HBW).grown hg7 hz6 (fun k hk => by simp [Value.ownBlock] at hk; omega)
              obtain ⟨q7, cp7, rfl⟩ := own_slice hown7
              have HO7 := hide hown7
              have HB7 := hide hbw7
              clear hown7 hg7 hbw7 HO6 HBW
              go_wp2
              refine bodyPost_ret (v := .tuple #[.slice q7 (2 + l.length) cp7, .int .i64 0]) (by simp [results, Tryz.results33, go_sem]) rfl ⟨_, rfl, ?_, unhide HB7⟩
              rw [unhide HCB, hx, unhide HCTL]
              have h := unhide HO7
              rw [← Lib.byteCells_append] at h
              simpa using h
          · have q1 : ((m : Int) == 128) = false := by simp; omega
            clear h128
            go_wp2_with (at_builtin; refine wpList_append_own _ rfl _ _ 28 rfl w.heap.size 5 i0 _ 1 1 Tryz.underlying28 hi0 hz0 hz1' hz2' rfl (by decide) _ _ _ rfl ((unhide HO5).alloc _) ⟨w5.heap.size + 1, 0, none⟩ 1 1 [.int .u8 ((bs : Int) + 2 * (ns : Int) + 16 * (pb : Int) + 32 * (nr : Int))] rfl rfl ?d1 ?d2 ?d3 ?d4 ?d5 ?_)
            try case d1 =>
              intro j u hj
              match j, hj with
                | 0, hj => simp at hj; subst hj; simp [Addr.add]
            try case d2 => intro u hu; simp at hu; first | (rcases hu with rfl | rfl <;> rfl) | (subst hu; rfl)
            try case d3 => unfold maxLen; omega
            try case d4 => omega
            try case d5 => simp; omega
            intro v6 w6 hown6 hg6 _
            rw [unhide HE2] at hown6
            have hb6 : Below (w.heap.size + 1) wc w6 := ((hb5.alloc (by omega) _).alloc (by simp; omega) _).grown hg6 (by simp; omega) (fun k hk => by simp [Value.ownBlock] at hk; omega)
            have hbw6 : Below w.heap.size w w6 := hwW.trans (hb6.mono (by omega))
            have k5 := (hH.of hb6 (Nat.le_refl _)).2.2.2.2.2.1
            obtain ⟨g6, cap6, rfl, hg61, hnc6⟩ := row_all6 hown6 (by omega)
            have hsrc6 := hsrc.below hbw6 (Nat.le_refl _)
            have hz6 := hbw6.size
            have HO6 := hide hown6
            have HBW := hide hbw6
            clear hown6 hg6 hb6 hbw6 HO5 hb5 hH k4a k4 k0
            rcases hsrc6 with ⟨rfl, rfl⟩ | ⟨adq, rfl, hsq⟩
            · go_wp2_with (at_builtin; refine wpList_append_nil _ rfl _ _ 28 rfl 5 i0 Tryz.underlying28 hi0 g6 _ cap6 c rfl hnc6 rfl ?_)
              go_wp2
              refine bodyPost_ret (v := .tuple #[.slice (some ⟨g6, 0, none⟩) 2 cap6, .int .i64 0]) (by simp [results, Tryz.results33, go_sem]) rfl ⟨_, rfl, ?_, unhide HBW⟩
              rw [unhide HCB, hx, unhide HCTL]
              have h := unhide HO6
              simpa using h
            · go_wp2_with (at_builtin; refine wpList_append_own _ rfl _ _ 28 rfl w.heap.size 5 i0 _ 1 1 Tryz.underlying28 hi0 hz0 hz1' hz2' rfl (by decide) _ _ _ rfl (unhide HO6) adq l.length c (Lib.byteCells l) rfl (by simp [Lib.byteCells]) ?zd1 ?zd2 ?zd3 ?zd4 ?zd5 ?_)
              try case zd1 => exact hsq
              try case zd2 => exact byteCells_one l
              try case zd3 => unfold maxLen; omega
              try case zd4 => omega
              try case zd5 => omega
              intro v7 w7 hown7 hg7 _
              have hbw7 : Below w.heap.size w w7 := (unhide HBW).grown hg7 hz6 (fun k hk => by simp [Value.ownBlock] at hk; omega)
              obtain ⟨q7, cp7, rfl⟩ := own_slice hown7
              have HO7 := hide hown7
              have HB7 := hide hbw7
              clear hown7 hg7 hbw7 HO6 HBW
              go_wp2
              refine bodyPost_ret (v := .tuple #[.slice q7 (2 + l.length) cp7, .int .i64 0]) (by simp [results, Tryz.results33, go_sem]) rfl ⟨_, rfl, ?_, unhide HB7⟩
              rw [unhide HCB, hx, unhide HCTL]
              have h := unhide HO7
              rw [← Lib.byteCells_append] at h
              simpa using h
end Go.Proofs.YtkalonhalhdlaaaGreatDoor

/-
  What one call of the document's own Write does, at whatever numbers.
-/
namespace Go.Proofs.YtkalonhalhdlaaaGreatDoor
open Go.RowKit

/-- The document's own Write, at whatever numbers. -/
theorem refWrite_any (m : Int) (f : Fr) (q : Option Addr) (c : Nat) (w : World) (hsrc : SrcE w q f.info) :
    Calls Tryz.prog 33 #[.int .i64 m, frV f q c] w fun e w' => ∃ v, e = .returned (.tuple #[v, .int .i64 ((writeL m f).1 : Nat)]) ∧ w'.ownsRow w.heap.size 5 1 v (writeL m f).2.length (Lib.byteCells (writeL m f).2) ∧ ((writeL m f).1 ≠ 0 → v = .slice none 0 0) ∧ Below w.heap.size w w' := by
  unfold frV writeL
  by_cases h1 : (isMod m && isKd f.k && numF m f.ns (hasS f.k) && numF m f.nr (hasR f.k)) = false
  · rw [if_pos h1]
    by_cases h0 : (isMod m && isKd f.k) = true
    · have hn : (numF m f.ns (hasS f.k) && numF m f.nr (hasR f.k)) = false := by
        rw [h0, Bool.and_assoc, Bool.true_and] at h1
        exact h1
      refine (refWrite_arg2 m f.a f.k f.ns f.nr f.p _ w h0 hn).mono ?_
      rintro e w' ⟨rfl, hb⟩
      exact ⟨_, rfl, owns_nil _ _, fun _ => rfl, hb⟩
    · refine (refWrite_arg1 m f.a f.k f.ns f.nr f.p _ w (Bool.eq_false_iff.2 h0)).mono ?_
      rintro e w' ⟨rfl, hb⟩
      exact ⟨_, rfl, owns_nil _ _, fun _ => rfl, hb⟩
  · rw [if_neg h1]
    have h1' : (isMod m && isKd f.k && (numF m f.ns (hasS f.k) && numF m f.nr (hasR f.k))) = true := by rw [← Bool.and_assoc]; exact eq_true_of_ne_false h1
    have h0 : (isMod m && isKd f.k) = true := by simp only [Bool.and_eq_true] at h1' ⊢; exact h1'.1
    have hn0 : (numF m f.ns (hasS f.k) && numF m f.nr (hasR f.k)) = true := by simp only [Bool.and_eq_true] at h1' ⊢; exact h1'.2
    by_cases h2 : isAddr f.a = false
    · rw [if_pos h2]
      refine (refWrite_addr m f.a f.k f.ns f.nr f.p _ w h0 hn0 h2).mono ?_
      rintro e w' ⟨rfl, hb⟩
      exact ⟨_, rfl, owns_nil _ _, fun _ => rfl, hb⟩
    · rw [if_neg h2]
      have h2' : isAddr f.a = true := by simpa using h2
      by_cases h3 : infoF m f.k f.info.length = false
      · rw [if_pos h3]
        refine (refWrite_info m f.a f.k f.ns f.nr f.p q f.info.length c w h0 hn0 h2' h3).mono ?_
        rintro e w' ⟨rfl, hb⟩
        exact ⟨_, rfl, owns_nil _ _, fun _ => rfl, hb⟩
      · rw [if_neg h3]
        have h3' : infoF m f.k f.info.length = true := by simpa using h3
        obtain ⟨m', k', ns', nr', em, ek, es, er, ok⟩ := numOk_of h1'
        rw [em, ek, es, er]
        rw [em, ek] at h3'
        refine (refWrite_ok m' k' ns' nr' f.a f.p q f.info c w ok h2' h3' hsrc).mono ?_
        rintro e w' ⟨v, rfl, hown, hb⟩
        refine ⟨v, rfl, ?_, fun h => absurd rfl h, hb⟩
        simp only [Int.toNat_natCast]
        have e1 : (UInt8.ofNat f.a.toNat :: (ctlL m' k' ns' nr' f.p ++ f.info)).length = 1 + cbN m' k' + f.info.length := by
          have : (ctlL m' k' ns' nr' f.p).length = cbN m' k' := by unfold ctlL cbN; split <;> rfl
          simp [this]; omega
        rw [e1]
        exact hown
end Go.Proofs.YtkalonhalhdlaaaGreatDoor
