/-
  What one call of tetherref.Bits does: the wire of plain words (LPure: wireL), in new memory.
-/
import Derived.Test.YtkalonhalhdlaaaGreatDoorRFeed2
import Derived.Test.YtkalonhalhdlaaaGreatDoorLWire
namespace Go.Proofs.YtkalonhalhdlaaaGreatDoor
open Go.RowKit

theorem lowBits_get (n x j : Nat) (h : j < n) : (lowBits n x)[j]'(by rw [lowBits_length]; exact h) = (x / 2 ^ j % 2 == 1) := by
  induction n generalizing x j with
  | zero => omega
  | succ n ih =>
    rcases j with _ | j
    · simp [lowBits]
    · simp only [lowBits, List.getElem_cons_succ]
      rw [ih (x / 2) j (by omega), Nat.div_div_eq_div_mul, Nat.pow_succ, Nat.mul_comm 2]
theorem plain_get (l : List UInt8) (j : Nat) (h : j < 8 * l.length) : (plainL l)[j]'(by rw [plainL_length]; exact h) = ((l.getD (j / 8) 0).toNat / 2 ^ (j % 8) % 2 == 1) := by
  induction l generalizing j with
  | nil => simp at h
  | cons x r ih =>
    simp only [plainL]
    by_cases h8 : j < 8
    · rw [List.getElem_append_left (by rw [lowBits_length]; exact h8), lowBits_get 8 x.toNat j h8]
      have e1 : j / 8 = 0 := by omega
      have e2 : j % 8 = j := by omega
      rw [e1, e2]
      simp
    · rw [List.getElem_append_right (by rw [lowBits_length]; omega)]
      simp only [lowBits_length]
      rw [ih (j - 8) (by simp at h; omega)]
      have e1 : j / 8 = (j - 8) / 8 + 1 := by omega
      have e2 : j % 8 = (j - 8) % 8 := by omega
      rw [e1, e2]
      simp

theorem bit_form (y k : Nat) : (((y : Int) / 2 ^ k).tmod 2 == 1) = (y / 2 ^ k % 2 == 1) := by
  have e : ((y : Int) / 2 ^ k) = ((y / 2 ^ k : Nat) : Int) := by simp
  rw [e]
  have e2 : (((y / 2 ^ k : Nat) : Int)).tmod 2 = ((y / 2 ^ k % 2 : Nat) : Int) := rfl
  rw [e2]
  generalize y / 2 ^ k % 2 = z
  by_cases h : z = 1
  · simp [h]
  · have h2 : ((z : Int) == 1) = false := beq_eq_false_iff_ne.2 (by omega)
    have h3 : (z == 1) = false := beq_eq_false_iff_ne.2 h
    rw [h2, h3]
theorem txt_put (a : List Bool) (b : Bool) : (⟨(txt a).toArray⟩ ++ ⟨#[chr b]⟩ : ByteArray) = ⟨(txt (a ++ [b])).toArray⟩ := txt_cat a [b]
theorem wireL_length (fs : List (List UInt8)) (h : ∀ f ∈ fs, f.length ≤ 64) : (wireL fs).length ≤ 1064 * fs.length + 8 := by
  have := framesL_length fs h
  simp [wireL, flagL]
  omega
theorem sumB_cells (f : List UInt8) : Lib.byteCells (sumB f) = [.int .u8 ((sumL f : Int) % 256), .int .u8 ((sumL f : Int) / 256)] := by
  have h := sumL_le f
  simp [Lib.byteCells, sumB]
  omega
set_option maxHeartbeats 4000000 in
set_option maxRecDepth 1000000 in
theorem refBits_some (fb fo cap : Nat) (fs : List (List UInt8)) (w : World) (hn : fs.length ≤ 1048576) (hfb : fb < w.heap.size) (hF : FramesAt w fb fo fs) (hlen : ∀ f ∈ fs, 2 ≤ f.length ∧ f.length ≤ 64) :
    Calls Tryz.prog 30 #[.slice (some ⟨fb, fo, none⟩) fs.length cap] w fun e w' => e = .returned (.tuple #[.string ⟨(txt (wireL fs)).toArray⟩, .int .i64 0]) ∧ Below w.heap.size w w' := by
  obtain ⟨i0, hi, hz0, hz1, hz2⟩ := info_parts infoByte
  go_enter Tryz.func30, Tryz.ntmps30
  go_wp2
  go_loop [4] (fun i => ∃ k : Nat, k ≤ fs.length ∧ i = .int .i64 k) (fun i => fs.length - (intOf i).toNat)
  case atStart => exact ⟨0, Nat.zero_le _, rfl⟩
  case round =>
    obtain ⟨k, hk, rfl⟩ := hrel
    by_cases hlt : k < fs.length
    · obtain ⟨b, off, cap', hcell, _, _⟩ := hF k hlt
      have hfl := hlen (fs.getD k []) (by simp [List.getD, hlt])
      generalize fs.getD k [] = f at hcell hfl
      obtain ⟨hf1, hf2⟩ := hfl
      have g1 : ¬ ((f.length : Int) < 2) := by omega
      have g2 : ¬ ((64 : Int) < (f.length : Int)) := by omega
      go_wp2
      go_round
      case rel => exact ⟨k + 1, by omega, by go_num⟩
      case measure => simp [intOf]; omega
    · go_wp2
      go_loopw [5, 6] (fun s i wr => ∃ (k : Nat) (acc : List Bool), k ≤ fs.length ∧ i = .int .i64 k ∧ s = .string ⟨(txt acc).toArray⟩ ∧ Below w.heap.size w wr ∧ acc ++ framesL (fs.drop k) = wireL fs) (fun _ i _ => fs.length - (intOf i).toNat)
      case atStart => exact ⟨0, flagL, Nat.zero_le _, rfl, rfl, Below.refl _ _, rfl⟩
      case round =>
        obtain ⟨k, acc, hk, rfl, rfl, hbw, hacc⟩ := hrel
        by_cases hlt : k < fs.length
        · obtain ⟨b, off, cap', hcell, hbl, hseg⟩ := hF.below hbw (Nat.le_refl _) hfb k hlt
          have hfl := hlen (fs.getD k []) (by simp [List.getD, hlt])
          have hdrop : fs.drop k = fs.getD k [] :: fs.drop (k + 1) := by rw [List.drop_eq_getElem_cons hlt]; simp [List.getD, hlt]
          generalize fs.getD k [] = f at hcell hfl hdrop hseg
          rw [hdrop] at hacc
          simp only [framesL] at hacc
          have HA := hide hacc
          have HWL : Hid (acc.length + (frameL f).length ≤ 1115693064) := by
            show _ ≤ _
            have q := congrArg List.length hacc
            have q2 := wireL_length fs (fun f hf => (hlen f hf).2)
            simp at q
            omega
          clear hacc hdrop
          obtain ⟨hf1, hf2⟩ := hfl
          have hsm := refSum_any b off cap' f wr (by unfold maxLen; omega) hseg
          have HS := hide hsm
          clear hsm
          go_wp2_with fail
          refine (unhide HS).mono ?_
          rintro e W1 ⟨rfl, hW1⟩
          subst hW1
          clear HS
          have hown0 : W1.ownsRow w.heap.size 5 1 (.slice none 0 0) 0 [] := World.ownsRow_nil _ _ _ _
          have hbz := hbw.size
          go_wp2_with (at_builtin; refine wpList_append_own _ rfl _ _ 28 rfl w.heap.size 5 i0 _ 1 1 Tryz.underlying28 hi hz0 hz1 hz2 rfl (by decide) _ _ _ rfl hown0 ⟨b, off, none⟩ f.length cap' (Lib.byteCells f) rfl (by simp [Lib.byteCells]) ?ac1 ?ac2 ?ac3 ?ac4 ?ac5 ?_)
          case ac1 => exact hseg.news
          case ac2 => exact byteCells_one f
          case ac3 => unfold maxLen; omega
          case ac4 => omega
          case ac5 => exact hbz
          intro v1 w1 hown1 hg1 _
          have hb1 : Below w.heap.size w w1 := hbw.grown hg1 hbz (fun k hk => by simp [Value.ownBlock] at hk)
          obtain ⟨g1, cp1, rfl, _⟩ := row_is hown1 rfl (by omega)
          have HB1 := hide hb1
          have HO1 := hide (hown1.alloc (.cells #[.int .u8 ((sumL f : Int) % 256), .int .u8 ((sumL f : Int) / 256)] 5))
          have hbz1 := hb1.size
          have hsl := sumL_le f
          clear hown1 hg1 hb1 hown0
          go_wp2_with (at_builtin; refine wpList_append_own _ rfl _ _ 28 rfl w.heap.size 5 i0 _ 1 1 Tryz.underlying28 hi hz0 hz1 hz2 rfl (by decide) _ _ _ rfl (unhide HO1) ⟨w1.heap.size, 0, none⟩ 2 2 [.int .u8 ((sumL f : Int) % 256), .int .u8 ((sumL f : Int) / 256)] rfl rfl ?bc1 ?bc2 ?bc3 ?bc4 ?bc5 ?_)
          case bc1 => exact news2 w1 _ _ _
          case bc2 => intro u hu; simp at hu; rcases hu with rfl | rfl <;> rfl
          case bc3 => unfold maxLen; omega
          case bc4 => omega
          case bc5 => rw [alloc1_s]; omega
          intro v2 w2 hown2 hg2 _
          have hrow : w.heap.size ≤ g1 := ((unhide HO1).lt g1 rfl).1
          have hb2 : Below w.heap.size w w2 := ((unhide HB1).alloc hbz1 _).grown hg2 (by rw [alloc1_s]; omega) (fun k hk => by simp [Value.ownBlock] at hk; omega)
          rw [← sumB_cells, ← Lib.byteCells_append] at hown2
          have hal : (f ++ sumB f).length = f.length + 2 := by simp [sumB]
          obtain ⟨g2, cp2, rfl, hsg2⟩ := row_is hown2 hal.symm (by omega)
          have hbz2 := hb2.size
          have HB2 := hide hb2
          have HL := hide hal
          have HFR : Hid (frameL f = stuffL 0 (plainL (f ++ sumB f))) := by show frameL f = _; rw [plainL_append]; rfl
          clear hown2 hg2 hb2 HO1 hal hrow
          generalize f ++ sumB f = al at hsg2 HL HFR
          have hal66 : al.length ≤ 66 := by rw [HL.out]; omega
          go_wp2
          go_loop [5, 9, 10] (fun s o i => ∃ (j n : Nat) (ac : List Bool), j ≤ 8 * al.length ∧ n ≤ 4 ∧ i = .int .i64 j ∧ o = .int .i64 n ∧ s = .string ⟨(txt ac).toArray⟩ ∧ ac ++ stuffL n ((plainL al).drop j) = acc ++ frameL f) (fun _ _ i => 8 * al.length - (intOf i).toNat)
          case atStart => exact ⟨0, 0, acc, Nat.zero_le _, Nat.zero_le _, rfl, rfl, rfl, by rw [HFR.out]; rfl⟩
          case round =>
            obtain ⟨j, n, ac, hj, hn4, rfl, rfl, rfl, hac⟩ := hrel
            have hlI : ((f.length : Int) + 2) = (al.length : Int) := by have := HL.out; omega
            have hlN : f.length + 2 = al.length := by have := HL.out; omega
            have HAC := hide hac
            clear hac
            by_cases hjl : j < 8 * al.length
            · have hcl := hsg2 (j / 8) (by omega)
              rw [Nat.zero_add] at hcl
              have hdr : Hid ((plainL al).drop j = ((al.getD (j / 8) 0).toNat / 2 ^ (j % 8) % 2 == 1) :: (plainL al).drop (j + 1)) := by
                show _ = _
                rw [List.drop_eq_getElem_cons (by rw [plainL_length]; exact hjl), plain_get al j hjl]
              generalize al.getD (j / 8) 0 = y at hcl hdr
              have hy := y.toNat_lt
              have hbf := bit_form y.toNat (j % 8)
              have hlA : ¬ 9223372036854775807 < (txt ac).length + 1 := by rw [txt_length]; have := congrArg List.length HAC.out; have := HWL.out; simp at *; omega
              have hlB : ¬ 9223372036854775807 < (txt ac).length + 1 + 1 := by rw [txt_length]; have := congrArg List.length HAC.out; have := HWL.out; simp at *; omega
              have hbit := hbf
              generalize (y.toNat / 2 ^ (j % 8) % 2 == 1) = bit at hbit hdr
              clear hbf
              cases bit
              · go_wp2
                go_round
                case rel =>
                  have q := HAC.out
                  rw [hdr.out, stuffL] at q
                  exact ⟨j + 1, 0, ac ++ [false], hjl, Nat.zero_le _, by go_num, rfl, congrArg Value.string (txt_put ac false), by simpa using q⟩
                case measure => simp [intOf]; omega
              · by_cases h4 : n = 4
                · subst h4
                  go_wp2
                  go_round
                  case rel =>
                    have q := HAC.out
                    rw [hdr.out, stuffL] at q
                    exact ⟨j + 1, 0, ac ++ [true] ++ [false], hjl, Nat.zero_le _, by go_num, rfl, congrArg Value.string (by rw [← txt_put, ← txt_put]; rfl), by simpa using q⟩
                  case measure => simp [intOf]; omega
                · have g5 : ((n : Int) + 1 == 5) = false := by simp; omega
                  go_wp2
                  go_round
                  case rel =>
                    have q := HAC.out
                    rw [hdr.out, stuffL, if_neg (by omega)] at q
                    exact ⟨j + 1, n + 1, ac ++ [true], hjl, by omega, by go_num, by go_num, congrArg Value.string (txt_put ac true), by simpa using q⟩
                  case measure => simp [intOf]; omega
            · have hd : (plainL al).drop j = [] := List.drop_eq_nil_of_le (by rw [plainL_length]; omega)
              have q := HAC.out
              rw [hd] at q
              simp only [stuffL, List.append_nil] at q
              have HQ := hide q
              have hlC : ¬ 9223372036854775807 < (txt ac).length + 8 := by rw [txt_length]; have := congrArg List.length q; have := HWL.out; simp at *; omega
              clear q hd HAC
              go_wp2
              go_roundw
              case rel =>
                have q := unhide HQ
                have q2 := unhide HA
                refine ⟨k + 1, ac ++ flagL, hlt, by go_num, congrArg Value.string (txt_cat ac flagL), unhide HB2, ?_⟩
                rw [← q2, q]
                simp
              case measure => simp [intOf]; omega
        · have hd : fs.drop k = [] := List.drop_eq_nil_of_le (by omega)
          rw [hd] at hacc
          simp only [framesL, List.append_nil] at hacc
          have HA := hide hacc
          clear hacc hd
          go_wp2
          go_ret2
          exact ⟨by rw [unhide HA]; rfl, hbw⟩
end Go.Proofs.YtkalonhalhdlaaaGreatDoor
