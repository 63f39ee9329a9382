/-
  What one call of plainBits, of stuffed, of sumOf and of Bits does: the text of bits of plain words (LPure), in new memory; nothing that was there turns.
-/
import Derived.Test.YtkalonhalhdlaaaGreatDoorLBuild
import Derived.Test.YtkalonhalhdlaaaGreatDoorLSum
import Derived.BigCall
namespace Go.Proofs.YtkalonhalhdlaaaGreatDoor
open Go.RowKit

theorem and_one (y : Nat) (hy : y < 256) : bits .and .u8 (y : Int) 1 = ((y % 2 : Nat) : Int) := by
  have := u8_and_nat y 1 hy (by omega)
  simp only [Int.natCast_one] at this
  rw [this, nat_mask1]

theorem chr_toNat (y : Nat) : ((chr (y % 2 == 1)).toNat : Int) = 48 + ((y % 2 : Nat) : Int) := by
  rcases Nat.mod_two_eq_zero_or_one y with h | h <;> simp [h, chr]

set_option maxHeartbeats 1000000 in
set_option maxRecDepth 100000 in
theorem plainBits_any (b off cap : Nat) (l : List UInt8) (w : World) (hl : l.length ≤ 1048576) (hc : Seg w b off l) (hb : b < w.heap.size) :
    Calls Tryz.prog 65 #[.slice (some ⟨b, off, none⟩) l.length cap] w fun e w' => e = .returned (.string ⟨(txt (plainL l)).toArray⟩) ∧ Below w.heap.size w w' := by
  go_enter Tryz.func65, Tryz.ntmps65
  go_wp2
  go_loopw [8] (fun i wr => ∃ (k : Nat) (acc : List Bool), k ≤ l.length ∧ i = .int .i64 k ∧ Lib.IsBuilderF 109 5 w.heap.size w.heap.size (Lib.byteCells (txt acc)) wr ∧ Below w.heap.size w wr ∧ acc ++ plainL (l.drop k) = plainL l) (fun i _ => l.length - (intOf i).toNat)
  case atStart => exact ⟨0, [], Nat.zero_le _, rfl, (Lib.IsBuilderF.of (Lib.fresh_isBuilder 109 5 w)), (Below.refl _ w).alloc (Nat.le_refl _) _, rfl⟩
  case round =>
    obtain ⟨k, acc, hk, rfl, hI, hbw, hacc⟩ := hrel
    have HA : Hid (acc ++ plainL (l.drop k) = plainL l) := hacc
    have hal : acc.length ≤ 8 * l.length := by have := congrArg List.length hacc; simp [plainL_length] at this; omega
    clear hacc
    by_cases hlt : k < l.length
    · have hcell := (hc.below hbw hb) k hlt
      have hdrop : Hid (l.drop k = l.getD k 0 :: l.drop (k + 1)) := by
        show l.drop k = l.getD k 0 :: l.drop (k + 1)
        rw [List.drop_eq_getElem_cons hlt]; simp [List.getD, hlt]
      generalize l.getD k 0 = x at hcell hdrop
      have hx8 : x.toNat < 256 := x.toNat_lt
      have hA2 : Hid (acc ++ lowBits (8 - 0) x.toNat ++ plainL (l.drop (k + 1)) = plainL l) := by
        show acc ++ lowBits 8 x.toNat ++ plainL (l.drop (k + 1)) = plainL l
        rw [← HA.out, hdrop.out, plainL, List.append_assoc]
      go_wp2
      go_loopw [5, 12] (fun x' i wr => ∃ (j y : Nat) (acc : List Bool), j ≤ 8 ∧ y < 256 ∧ i = .int .i64 j ∧ x' = .int .u8 y ∧ Lib.IsBuilderF 109 5 w.heap.size w.heap.size (Lib.byteCells (txt acc)) wr ∧ Below w.heap.size w wr ∧ acc ++ lowBits (8 - j) y ++ plainL (l.drop (k + 1)) = plainL l) (fun _ i _ => 8 - (intOf i).toNat)
      case atStart => exact ⟨0, x.toNat, acc, by omega, hx8, rfl, rfl, hI, hbw, hA2.out⟩
      case round =>
        clear hI hbw hal hA2 HA
        obtain ⟨j, y, acc, hj, hy, rfl, rfl, hI, hbw, hacc⟩ := hrel
        have hal : acc.length ≤ 8 * l.length := by have := congrArg List.length hacc; simp [plainL_length] at this; omega
        have HA : Hid (acc ++ lowBits (8 - j) y ++ plainL (l.drop (k + 1)) = plainL l) := hacc
        clear hacc
        by_cases hj8 : j < 8
        · have e8 : Hid (8 - j = (8 - (j + 1)) + 1) := by show 8 - j = (8 - (j + 1)) + 1; omega
          have hand := and_one y hy
          go_wp2_with fail
          refine (writeByte_any w.heap.size w.heap.size _ _ _ hI (by rw [Lib.byteCells_length, txt_length]; omega) (by have := hbw.size; omega)).mono ?_
          rintro e W1 ⟨rfl, h1, b1, _⟩
          clear hand
          go_wp2
          go_roundw
          case rel =>
            refine ⟨j + 1, y / 2, acc ++ [y % 2 == 1], by omega, by omega, by go_num, by go_num, ?_, hbw.trans b1, ?_⟩
            · have e1 : Lib.byteCells (txt (acc ++ [y % 2 == 1])) = Lib.byteCells (txt acc) ++ [.int .u8 (48 + (y : Int) % 2)] := by
                rw [txt_append, Lib.byteCells_append]
                congr 1
                simp [txt, Lib.byteCells, chr_toNat]
              rw [e1]
              exact Or.inr h1
            · rw [← HA.out, e8.out, lowBits]; simp
          case measure => simp [intOf]; omega
        · have e0 : j = 8 := by omega
          subst e0
          go_wp2
          go_roundw
          case rel => exact ⟨k + 1, acc, by omega, by go_num, hI, hbw, by have h := HA.out; simpa [lowBits] using h⟩
          case measure => simp [intOf]; omega
    · go_wp2_with fail
      refine (Tryz.Builder_String_any_k w.heap.size w.heap.size _ _ hI (by have := hbw.size; omega)).mono ?_
      rintro e W1 ⟨rfl, _, b1, _⟩
      go_wp2
      go_ret
      have h := HA.out
      rw [List.drop_eq_nil_of_le (by omega)] at h
      simp only [plainL, List.append_nil] at h
      rw [← h]
      exact ⟨rfl, hbw.trans b1⟩

/-- The block that sumOf makes. -/
def sumObj (l : List UInt8) : Obj := .cells #[.int .u8 ((sumL l : Int) % 256), .int .u8 ((sumL l : Int) / 256)] 5

theorem sumB_length (l : List UInt8) : (sumB l).length = 2 := rfl

theorem sumObj_seg (w : World) (l : List UInt8) : Seg (w.alloc (sumObj l)) w.heap.size 0 (sumB l) := by
  have h0 := sumL_le l
  intro i hi
  rw [sumB_length] at hi
  have h2 : i = 0 ∨ i = 1 := by omega
  have h4 : (sumL l : Int) / 256 % 256 = (sumL l : Int) / 256 := by omega
  rcases h2 with rfl | rfl <;> simp [sumObj, sumB, h4]

set_option maxHeartbeats 1000000 in
set_option maxRecDepth 100000 in
theorem sumOf_any (b off cap : Nat) (l : List UInt8) (w : World) (hl : l.length ≤ maxLen) (hc : Seg w b off l) :
    Calls Tryz.prog 66 #[.slice (some ⟨b, off, none⟩) l.length cap] w fun e w' => e = .returned (.slice (some ⟨w.heap.size, 0, none⟩) 2 2) ∧ w' = w.alloc (sumObj l) := by
  have hs := sumL_le l
  go_enter Tryz.func66, Tryz.ntmps66
  go_wp2_with fail
  refine (sum_any b off cap l _ hl hc).mono ?_
  rintro e w' ⟨rfl, rfl⟩
  go_wp2
  go_ret
  exact ⟨rfl, rfl⟩

theorem txt_get (bs : List Bool) (k : Nat) (h : k < bs.length) (h' : k < (⟨(txt bs).toArray⟩ : ByteArray).size) : (⟨(txt bs).toArray⟩ : ByteArray)[k]'h' = chr bs[k] := by
  show (txt bs).toArray[k]'_ = _
  simp [txt]
theorem txt_size (bs : List Bool) : (⟨(txt bs).toArray⟩ : ByteArray).size = bs.length := by
  show (txt bs).toArray.size = _
  simp [txt]

set_option maxHeartbeats 4000000 in
set_option maxRecDepth 1000000 in
theorem stuffed_any (bs : List Bool) (w : World) (hs : bs.length ≤ 16777216) :
    Calls Tryz.prog 64 #[.string ⟨(txt bs).toArray⟩] w fun e w' => e = .returned (.string ⟨(txt (stuffL 0 bs)).toArray⟩) ∧ Below w.heap.size w w' := by
  have hsz0 := txt_size bs
  have hget := txt_get bs
  generalize (⟨(txt bs).toArray⟩ : ByteArray) = s at hsz0 hget
  have HZ : Hid (s.size = bs.length) := hsz0
  have HG : Hid (∀ k (h : k < bs.length) (h' : k < s.size), s[k]'h' = chr bs[k]) := hget
  clear hsz0 hget
  go_enter Tryz.func64, Tryz.ntmps64
  go_wp2
  go_loopw [4] (fun o wr => ∃ (pos n : Nat) (acc : List Bool), o = .int .i64 n ∧ n ≤ 4 ∧ pos ≤ bs.length ∧ Lib.IsBuilderF 109 5 w.heap.size w.heap.size (Lib.byteCells (txt acc)) wr ∧ wr.heap[w.heap.size + 1]? = some (.stringIter s pos) ∧ Below w.heap.size w wr ∧ acc ++ stuffL n (bs.drop pos) = stuffL 0 bs) (fun _ wr => s.size - wr.iterPos (w.heap.size + 1))
  case atStart =>
    refine ⟨0, 0, [], rfl, by omega, by omega, (Lib.IsBuilderF.of (Lib.fresh_isBuilder 109 5 w)).alloc _, ?_, ((Below.refl _ w).alloc (Nat.le_refl _) _).alloc (by simp) _, rfl⟩
    have := World.iter_heap (w.alloc (.cells #[.pointer none, .slice none 0 0] 109)) s 0
    simpa using this
  case round =>
    obtain ⟨pos, n, acc, rfl, hn, hpos, hI, hit, hbw, hacc⟩ := hrel
    have hsz : w.heap.size + 1 < wr.heap.size := (Array.getElem?_eq_some_iff.1 hit).1
    have hal : acc.length ≤ 2 * bs.length := by have := congrArg List.length hacc; have := stuffL_length 0 bs; simp at *; omega
    have HA : Hid (acc ++ stuffL n (bs.drop pos) = stuffL 0 bs) := hacc
    clear hacc
    by_cases hp : pos < bs.length
    · have hp' : pos < s.size := by rw [HZ.out]; exact hp
      have hb0 := HG.out pos hp hp'
      have hdrop : Hid (bs.drop pos = bs[pos] :: bs.drop (pos + 1)) := List.drop_eq_getElem_cons hp
      generalize bs[pos] = bit at hb0 hdrop
      have hnx : ∀ ty, (Instr.next (.pointer (some ⟨w.heap.size + 1, 0, none⟩)) true ty).run Tryz.prog wr = _ := fun ty => Lib.run_next_ascii_at wr (w.heap.size + 1) s pos ty hit hp' (by rw [hb0]; cases bit <;> decide)
      rw [hb0] at hnx
      have hI2 := hI.iterAt hit (pos + 1)
      have hit2 := Lib.iterAt_heap wr (w.heap.size + 1) s pos (pos + 1) hit
      have hbw2 := Lib.below_iterAt hbw (k := w.heap.size + 1) (by omega) s (pos + 1)
      have hsz2 : w.heap.size ≤ (wr.iterAt (w.heap.size + 1) s (pos + 1)).heap.size := by rw [Lib.iterAt_size]; omega
      clear hb0 hp'
      cases bit
      · have e48 : (chr false).toNat = 48 := by decide
        rw [e48] at hnx
        clear e48
        go_wp2_with fail
        refine (writeRune_ascii w.heap.size w.heap.size _ 48 (by omega) (by omega) _ hI2 (by rw [Lib.byteCells_length, txt_length]; omega) hsz2).mono ?_
        rintro e W1 ⟨rfl, h1, b1, k1⟩
        clear hnx
        go_wp2
        go_roundw
        case rel =>
          refine ⟨pos + 1, 0, acc ++ [false], by go_num, by omega, by omega, ?_, k1.iter hit2 (by omega), hbw2.trans b1, ?_⟩
          · rw [txt_append, Lib.byteCells_append]; exact Or.inr h1
          · rw [← HA.out, hdrop.out, stuffL]; simp
        case measure =>
          simp only [World.iterPos, k1.iter hit2 (by omega), hit]
          have := HZ.out
          omega
      · have e49 : (chr true).toNat = 49 := by decide
        rw [e49] at hnx
        clear e49
        have g5 : ((n : Int) + 1 == 5) = decide (n = 4) := by
          by_cases h : n = 4
          · subst h; rfl
          · have : ¬ ((n : Int) + 1 = 5) := by omega
            simp [h, this]
        by_cases h4 : n = 4
        · have g6 : ((n : Int) + 1 == 5) = true := by rw [g5]; simp [h4]
          have H4 : Hid (n = 4) := h4
          clear g5 h4
          go_wp2_with fail
          refine (writeRune_ascii w.heap.size w.heap.size _ 49 (by omega) (by omega) _ hI2 (by rw [Lib.byteCells_length, txt_length]; omega) hsz2).mono ?_
          rintro e W1 ⟨rfl, h1, b1, k1⟩
          clear hnx
          go_wp2_with fail
          refine (writeByte_any w.heap.size w.heap.size _ 48 _ (Or.inr h1) (by rw [List.length_append, Lib.byteCells_length, txt_length]; simp; omega) (by have := b1.size; omega)).mono ?_
          rintro e W2 ⟨rfl, h2, b2, k2⟩
          go_wp2
          go_roundw
          case rel =>
            refine ⟨pos + 1, 0, acc ++ [true, false], by go_num, by omega, by omega, ?_, k2.iter (k1.iter hit2 (by omega)) (by omega), (hbw2.trans b1).trans b2, ?_⟩
            · rw [txt_append, Lib.byteCells_append]
              rw [List.append_assoc] at h2
              exact Or.inr h2
            · rw [← HA.out, hdrop.out, stuffL, if_pos (by have := H4.out; omega)]; simp
          case measure =>
            simp only [World.iterPos, k2.iter (k1.iter hit2 (by omega)) (by omega), hit]
            have := HZ.out
            omega
        · have g6 : ((n : Int) + 1 == 5) = false := by rw [g5]; simp [h4]
          have H4 : Hid (¬ n = 4) := h4
          have hsmall : n + 1 ≤ 6 := by omega
          clear g5 h4
          go_wp2_with fail
          refine (writeRune_ascii w.heap.size w.heap.size _ 49 (by omega) (by omega) _ hI2 (by rw [Lib.byteCells_length, txt_length]; omega) hsz2).mono ?_
          rintro e W1 ⟨rfl, h1, b1, k1⟩
          clear hnx
          go_wp2
          go_roundw
          case rel =>
            refine ⟨pos + 1, n + 1, acc ++ [true], by go_num, ?_, by omega, ?_, k1.iter hit2 (by omega), hbw2.trans b1, ?_⟩
            · have := H4.out; omega
            · rw [txt_append, Lib.byteCells_append]; exact Or.inr h1
            · rw [← HA.out, hdrop.out, stuffL, if_neg (by have := H4.out; omega)]; simp
          case measure =>
            simp only [World.iterPos, k1.iter hit2 (by omega), hit]
            have := HZ.out
            omega
    · have hp' : ¬ pos < s.size := by rw [HZ.out]; exact hp
      have hnx : ∀ ty, (Instr.next (.pointer (some ⟨w.heap.size + 1, 0, none⟩)) true ty).run Tryz.prog wr = _ := fun ty => Lib.run_next_end_at wr (w.heap.size + 1) s pos ty hit hp'
      go_wp2_with fail
      refine (Tryz.Builder_String_any_k w.heap.size w.heap.size _ _ hI (by omega)).mono ?_
      rintro e W1 ⟨rfl, _, b1, _⟩
      go_wp2
      go_ret
      have h := HA.out
      rw [List.drop_eq_nil_of_le (by omega), stuffL, List.append_nil] at h
      rw [← h]
      exact ⟨rfl, hbw.trans b1⟩

end Go.Proofs.YtkalonhalhdlaaaGreatDoor
