/-
  What one call of Plain does where the text is too short or too long: it gives true all the same.
-/
import Derived.Test.YtkalonhalhdlaaaLPlain
namespace Go.Proofs.Ytkalonhalhdlaaa
open Go.RowKit

def tetherL : List UInt8 := [116, 101, 116, 104, 101, 114]
theorem tetherL_length : tetherL.length = 6 := rfl

set_option maxHeartbeats 1000000 in
set_option maxRecDepth 100000 in
theorem plain_short (s0 : ByteArray) (hs0 : s0.size < 2) (n : Int) (hn : -9223372036854775808 ≤ n ∧ n ≤ 9223372036854775807) (w : World) :
    Calls Try.prog 4 #[.string s0, .int .i64 n] w fun e w' => e = .returned (.bool true) ∧ Below w.heap.size w w' := by
  have hsz : (⟨#[116, 101, 116, 104, 101, 114]⟩ : ByteArray).size = 6 := rfl
  have h64 : tetherL.length ≤ 64 := by decide
  have h2 : 2 ≤ tetherL.length := by decide
  have g1 : decide ((s0.size : Int) < 2) = true := by simp; omega
  go_enter Try.func4, Try.ntmps4
  go_wp2_with fail
  refine (lines_any _).mono ?_
  rintro e w1 ⟨rfl, hb1⟩
  go_wp2_with fail
  refine (newHunter_any _).mono ?_
  rintro e w2 ⟨rfl, kh, hb2⟩
  have hcv := conv_bytes w2 ⟨#[116, 101, 116, 104, 101, 114]⟩
  rw [hsz] at hcv
  have hs1 := hb1.size
  have hs2 := hb2.size
  obtain ⟨W3, hW3⟩ : ∃ W, W = Lib.bytesWorld w2 5 ⟨#[116, 101, 116, 104, 101, 114]⟩ := ⟨_, rfl⟩
  have hseg3 : Seg W3 w2.heap.size 0 tetherL := by rw [hW3]; exact bytesWorld_seg w2 tetherL
  have hb3 : Below w2.heap.size w2 W3 := by rw [hW3]; exact bytesWorld_below w2 _
  have hs3 : W3.heap.size = w2.heap.size + 1 := by rw [hW3]; exact Lib.bytesWorld_size _ _ _
  rw [← hW3] at hcv
  have hlt3 : w2.heap.size < W3.heap.size := by omega
  have HS3 := hide hs3
  clear hW3 hs3
  generalize grownCap w2 6 0 5 = cp at hcv
  have hF : FramesAt (W3.alloc (.cells #[.slice (some ⟨w2.heap.size, 0, none⟩) 6 cp] 28)) W3.heap.size 0 [tetherL] := by
    intro i hi
    simp at hi
    subst hi
    exact ⟨w2.heap.size, 0, cp, by simp [tetherL_length], by simp; omega, hseg3.below ((Below.refl _ W3).alloc (Nat.le_refl _) _) hlt3⟩
  have hbits := bits_some W3.heap.size 0 1 [tetherL] _ (by simp) (by simp) hF (by simp [tetherL_length])
  have HB := hide hbits
  clear hbits hF hseg3
  go_wp2_with fail
  clear hcv
  refine (unhide HB).mono ?_
  rintro e w4 ⟨rfl, hb4⟩
  clear HB
  have hbs4 := hb4.size
  obtain ⟨B, hB⟩ : ∃ B, B = wireL [tetherL] := ⟨_, rfl⟩
  rw [← hB]
  have hBe : B = flagL ++ frameL tetherL ++ flagL := by rw [hB]; simp [wireL, framesL]
  have hsz0 := txt_size B
  have hget := txt_get B
  have hx1 : ((⟨(txt B).toArray⟩ : ByteArray).extract 0 8).toList = [48, 49, 49, 49, 49, 49, 49, 48] := by
    rw [hBe]; exact ext_first _
  have hx2 : ((⟨(txt B).toArray⟩ : ByteArray).extract ((⟨(txt B).toArray⟩ : ByteArray).size - 8) (⟨(txt B).toArray⟩ : ByteArray).size).toList = [48, 49, 49, 49, 49, 49, 49, 48] := by
    rw [hBe]; exact ext_last _
  have HBE := hide hBe
  have hdat : (⟨(txt B).toArray⟩ : ByteArray).data.toList = txt B := by simp
  generalize (⟨(txt B).toArray⟩ : ByteArray) = s at hsz0 hget hx1 hx2 hdat
  have HD := hide hdat
  clear hdat
  have hl16 : 16 ≤ s.size := by rw [hsz0, hBe]; simp [flagL]
  have hu : s.size ≤ 1080 := by rw [hsz0, hBe]; have := frameL_length tetherL; simp [flagL]; omega
  have g3 : decide ((s.size : Int) < 16) = false := by simp; omega
  have HZ := hide hsz0
  have HG := hide hget
  clear hB hBe hsz0 hget
  have hms : Hid (s.size = (frameL tetherL).length + 16) := by show s.size = _; rw [unhide HZ, unhide HBE]; simp [flagL]
  have hMg : Hid (∀ k (h : k < (frameL tetherL).length) (h' : 8 + k < s.size), s[8 + k]'h' = chr (frameL tetherL)[k]) := by
    show ∀ k (h : k < (frameL tetherL).length) (h' : 8 + k < s.size), s[8 + k]'h' = chr (frameL tetherL)[k]
    intro k h h'
    have hh : 8 + k < B.length := by rw [← unhide HZ]; exact h'
    rw [unhide HG (8 + k) hh h']
    congr 1
    have := unhide HBE
    subst this
    rw [List.getElem_append_left (by simp [flagL]; omega), List.getElem_append_right (by simp [flagL])]
    simp [flagL]
  have hrun : runOk 0 (frameL tetherL) := stuff_runOk 0 _ (by omega)
  have HR := hide hrun
  clear hrun
  go_wp2
  go_loop [9, 10] (fun o i => ∃ (k r : Nat), k ≤ (frameL tetherL).length ∧ r ≤ 5 ∧ o = .int .i64 r ∧ i = .int .i64 ((8 + k : Nat) : Int) ∧ runOk r ((frameL tetherL).drop k)) (fun _ i => s.size - (intOf i).toNat)
  case atStart => exact ⟨0, 0, by omega, by omega, rfl, rfl, unhide HR⟩
  case round =>
    obtain ⟨k, r, hk, hr, rfl, rfl, hro⟩ := hrel
    by_cases hlt : k < (frameL tetherL).length
    · have hi1 : 8 + k < s.size := by have := unhide hms; omega
      have hb0 := unhide hMg k hlt hi1
      have hdrop : (frameL tetherL).drop k = (frameL tetherL)[k] :: (frameL tetherL).drop (k + 1) := List.drop_eq_getElem_cons hlt
      rw [hdrop] at hro
      generalize (frameL tetherL)[k] = bit at hb0 hro
      have q1 : ((8 + k : Nat) : Int) < (s.size : Int) - 8 := by have := unhide hms; omega
      clear hdrop
      cases bit
      · have HRo := hide hro.1
        clear hro
        have e48 : (s[8 + k]'hi1) = 48 := hb0
        clear hb0
        go_wp2
        go_round
        case rel => exact ⟨k + 1, 0, by omega, by omega, rfl, by go_num, unhide HRo⟩
        case measure => simp [intOf]; omega
      · obtain ⟨hr5, hro2⟩ := hro
        have HRo := hide hro2
        clear hro2
        have e49 : (s[8 + k]'hi1) = 49 := hb0
        have q2 : ¬ (5 : Int) < (r : Int) + 1 := by omega
        clear hb0
        go_wp2
        go_round
        case rel => exact ⟨k + 1, r + 1, by omega, by omega, by go_num, by go_num, unhide HRo⟩
        case measure => simp [intOf]; omega
    · have q1 : ¬ ((8 + k : Nat) : Int) < (s.size : Int) - 8 := by have := unhide hms; omega
      have hfl : 32 ≤ (frameL tetherL).length := by
        have := stuffL_ge 0 (plainL tetherL ++ plainL (sumB tetherL))
        simp only [List.length_append, plainL_length, sumB_length] at this
        unfold frameL
        omega
      have hs48 : 48 ≤ s.size := by have := unhide hms; omega
      clear hro
      go_wp2_with fail
      refine (pick_any n ((s.size : Int) - 16) _ hn (by omega) (by omega)).mono ?_
      rintro e w5 ⟨⟨r, hr1, rfl⟩, hw5⟩
      subst hw5
      have hcv := conv_bytes w5 s
      obtain ⟨W6, hW6⟩ : ∃ W, W = Lib.bytesWorld w5 5 s := ⟨_, rfl⟩
      rw [← hW6] at hcv
      generalize grownCap w5 s.size 0 5 = cp6 at hcv
      have hb6 : Below w5.heap.size w5 W6 := by rw [hW6]; exact bytesWorld_below w5 _
      have hs6 : W6.heap.size = w5.heap.size + 1 := by rw [hW6]; exact Lib.bytesWorld_size _ _ _
      have hrB : 8 + r < B.length := by rw [← unhide HZ]; omega
      have hrM : r < (frameL tetherL).length := by have := unhide hms; omega
      have hbit : B[8 + r] = (frameL tetherL)[r] := by
        have hBe := unhide HBE
        subst hBe
        rw [List.getElem_append_left (by simp [flagL]; omega), List.getElem_append_right (by simp [flagL])]
        simp [flagL]
      have hcell : W6.cell? ⟨w5.heap.size, 8 + r, none⟩ = some (.int .u8 ((chr (frameL tetherL)[r]).toNat : Int)) := by
        rw [hW6, Lib.bytesWorld_cell w5 _ s (8 + r) (by omega), unhide HD, txt_getD B _ hrB, hbit]
      have hfz : W6.frozen? ⟨w5.heap.size, 8 + r, none⟩ = false := by rw [hW6]; exact bytesWorld_frozen w5 s _ (by omega)
      have hseg6 : Seg W6 w5.heap.size 0 (txt B) := by
        have := bytesWorld_seg w5 (txt B)
        have e : (⟨(txt B).toArray⟩ : ByteArray) = s := by
          apply ByteArray.ext
          show (txt B).toArray = s.data
          rw [← unhide HD]
        rw [e, ← hW6] at this
        exact this
      have hB2 : B.set (8 + r) (!(frameL tetherL)[r]) = flagL ++ (frameL tetherL).set r (!(frameL tetherL)[r]) ++ flagL := by
        have hBe := unhide HBE
        rw [hBe, List.append_assoc, List.set_append_right _ _ (by simp [flagL])]
        rw [List.set_append_left _ _ (by simp [flagL]; exact hrM)]
        simp [flagL]
      have hnever := flip_tells tetherL r hrM
      rw [← hB2] at hnever
      have hseg7 := seg_set hseg6 (8 + r) (chr (!(frameL tetherL)[r])) (by rw [txt_length]; exact hrB)
      rw [← txt_set] at hseg7
      have hl7 : (txt (B.set (8 + r) (!(frameL tetherL)[r]))).length = s.size := by rw [txt_length, List.length_set, ← unhide HZ]
      have hcb := hseg7.bytesIn.convert (P := Try.prog) (nums_length _) cp6 28 5 9 Try.underlying28 Try.underlying5 Try.underlying9
      rw [hl7] at hcb
      have est : strOfNums (nums (txt (B.set (8 + r) (!(frameL tetherL)[r])))) = ⟨(txt (B.set (8 + r) (!(frameL tetherL)[r]))).toArray⟩ := by
        have e : ∀ x, strOfNums (nums x) = ⟨(Lib.bytesOf (nums x)).toArray⟩ := fun _ => rfl
        rw [e, bytesOf_nums]
      rw [est] at hcb
      have hBl2 : (B.set (8 + r) (!(frameL tetherL)[r])).length ≤ 1099511627776 := by rw [List.length_set, ← unhide HZ]; omega
      clear hW6 hseg6 hseg7 est hl7 hB2 hbit hrB
      generalize B.set (8 + r) (!(frameL tetherL)[r]) = B2 at hcb hnever hBl2
      generalize (frameL tetherL)[r] = bit at hcell hcb
      have hflip : (97 : Int) - ((chr bit).toNat : Int) = ((chr (!bit)).toNat : Int) := by cases bit <;> decide
      have hcb0 : 48 ≤ ((chr bit).toNat : Int) ∧ ((chr bit).toNat : Int) ≤ 49 := by cases bit <;> decide
      generalize ((chr (!bit)).toNat : Int) = q at hflip hcb
      generalize ((chr bit).toNat : Int) = q0 at hflip hcell hcb0
      have HN := hide hnever
      have HS6 := hide hs6
      clear hnever hs6
      have hlt5 : w1.heap.size < w5.heap.size := by have := hb2.size; have := kh.lt; have := hb3.size; simp at hbs4; omega
      have k7 : HunterAt (W6.setCell ⟨w5.heap.size, 8 + r, none⟩ (.int .u8 q)) w1.heap.size fresh := by
        have ka := kh.keeps (Keeps.of (X := fun _ => False) hb3) id
        have kb := (ka.alloc (.cells #[.slice (some ⟨w2.heap.size, 0, none⟩) 6 cp] 28)).keeps (Keeps.of (X := fun _ => False) hb4) id
        have kc := kb.keeps (Keeps.of (X := fun _ => False) hb6) id
        exact kc.setOther (by show w5.heap.size ≠ w1.heap.size; omega) _
      have hbl7 : Below w.heap.size w (W6.setCell ⟨w5.heap.size, 8 + r, none⟩ (.int .u8 q)) := by
        have a1 := hb1.trans (hb2.mono hs1)
        have a2 := a1.trans (hb3.mono a1.size)
        have a3 := a2.alloc (a2.size) (.cells #[.slice (some ⟨w2.heap.size, 0, none⟩) 6 cp] 28)
        have a4 := a3.trans (hb4.mono a3.size)
        have a5 := a4.trans (hb6.mono a4.size)
        exact a5.setCell (by exact a4.size) _
      have hs7 : w1.heap.size < (W6.setCell ⟨w5.heap.size, 8 + r, none⟩ (.int .u8 q)).heap.size := k7.lt
      have K7 := hide k7
      have B7 := hide hbl7
      clear k7 hbl7 hs7
      go_wp2_with fail
      clear hcb hcell hfz hcv hflip
      have k7 := unhide K7
      have hbl7 := unhide B7
      clear K7 B7
      generalize (W6.setCell ⟨w5.heap.size, 8 + r, none⟩ (.int .u8 q)) = W7 at k7 hbl7
      refine (feed_txt w1.heap.size fresh B2 _ k7 fresh_ok hBl2).mono ?_
      rintro e w8 ⟨v, t, rfl, ht, hT, _, hK8⟩
      obtain ⟨ao, cv, rfl⟩ := hT.form
      have hnev : ∀ (i : Nat) (hi : i < t.length), t[i].1 ≠ (1, tetherL) := by
        intro i hi he
        apply unhide HN
        rw [← ht]
        exact List.mem_map.2 ⟨t[i], List.getElem_mem hi, he⟩
      have hfinal : Below w.heap.size w w8 := by
        refine ⟨hK8.os.trans hbl7.os, hK8.tape.trans hbl7.tape, hK8.output.trans hbl7.output, Nat.le_trans hbl7.size hK8.size, fun kk hkk => ?_⟩
        rw [hK8.block kk (Nat.lt_of_lt_of_le hkk hbl7.size) (by omega), hbl7.block kk hkk]
      have htl : t.length ≤ 1099511627776 := by
        have h1 := congrArg List.length ht
        have h2 := feedH_length fresh B2
        simp at h1
        omega
      have HNV := hide hnev
      have HFI := hide hfinal
      have HTT := hide hT
      clear hnev hfinal hT ht HN hK8 k7 hbl7
      go_wp2
      go_loop [14] (fun i => ∃ k : Nat, k ≤ t.length ∧ i = .int .i64 k) (fun i => t.length - (intOf i).toNat)
      case atStart => exact ⟨0, by omega, rfl⟩
      case round =>
        obtain ⟨i, hi, rfl⟩ := hrel
        by_cases hlt : i < t.length
        · obtain ⟨g, cp2, hv, c0, c1, hby⟩ := (unhide HTT).get i hlt
          have hcv := bytes_string hby
          have hne := unhide HNV i hlt
          generalize t[i] = x at c0 c1 hby hcv hne
          obtain ⟨⟨kd, bs⟩, p, cap⟩ := x
          simp only at c0 c1 hcv
          simp only [Value.slice.injEq] at hv
          obtain ⟨rfl, _, rfl⟩ := hv
          clear hby
          by_cases hk1 : kd = 1
          · subst hk1
            have hbs : bs ≠ tetherL := fun e => hne (by rw [e])
            clear hne
            have hbb : (bs == [116, 101, 116, 104, 101, 114]) = false := by simp; exact hbs
            go_wp2
            go_round
            case rel => exact ⟨i + 1, by omega, by go_num⟩
            case measure => simp [intOf]; omega
          · have hkk : ((kd : Int) == 1) = false := by simp; omega
            go_wp2
            go_round
            case rel => exact ⟨i + 1, by omega, by go_num⟩
            case measure => simp [intOf]; omega
        · go_wp2
          go_ret
          exact ⟨rfl, unhide HFI⟩

set_option maxHeartbeats 1000000 in
set_option maxRecDepth 100000 in
theorem plain_long (s0 : ByteArray) (hs0 : 64 < s0.size) (n : Int) (hn : -9223372036854775808 ≤ n ∧ n ≤ 9223372036854775807) (w : World) :
    Calls Try.prog 4 #[.string s0, .int .i64 n] w fun e w' => e = .returned (.bool true) ∧ Below w.heap.size w w' := by
  have hsz : (⟨#[116, 101, 116, 104, 101, 114]⟩ : ByteArray).size = 6 := rfl
  have h64 : tetherL.length ≤ 64 := by decide
  have h2 : 2 ≤ tetherL.length := by decide
  have g1 : decide ((s0.size : Int) < 2) = false := by simp; omega
  have g2 : decide ((64 : Int) < (s0.size : Int)) = true := by simp; omega
  go_enter Try.func4, Try.ntmps4
  go_wp2_with fail
  refine (lines_any _).mono ?_
  rintro e w1 ⟨rfl, hb1⟩
  go_wp2_with fail
  refine (newHunter_any _).mono ?_
  rintro e w2 ⟨rfl, kh, hb2⟩
  have hcv := conv_bytes w2 ⟨#[116, 101, 116, 104, 101, 114]⟩
  rw [hsz] at hcv
  have hs1 := hb1.size
  have hs2 := hb2.size
  obtain ⟨W3, hW3⟩ : ∃ W, W = Lib.bytesWorld w2 5 ⟨#[116, 101, 116, 104, 101, 114]⟩ := ⟨_, rfl⟩
  have hseg3 : Seg W3 w2.heap.size 0 tetherL := by rw [hW3]; exact bytesWorld_seg w2 tetherL
  have hb3 : Below w2.heap.size w2 W3 := by rw [hW3]; exact bytesWorld_below w2 _
  have hs3 : W3.heap.size = w2.heap.size + 1 := by rw [hW3]; exact Lib.bytesWorld_size _ _ _
  rw [← hW3] at hcv
  have hlt3 : w2.heap.size < W3.heap.size := by omega
  have HS3 := hide hs3
  clear hW3 hs3
  generalize grownCap w2 6 0 5 = cp at hcv
  have hF : FramesAt (W3.alloc (.cells #[.slice (some ⟨w2.heap.size, 0, none⟩) 6 cp] 28)) W3.heap.size 0 [tetherL] := by
    intro i hi
    simp at hi
    subst hi
    exact ⟨w2.heap.size, 0, cp, by simp [tetherL_length], by simp; omega, hseg3.below ((Below.refl _ W3).alloc (Nat.le_refl _) _) hlt3⟩
  have hbits := bits_some W3.heap.size 0 1 [tetherL] _ (by simp) (by simp) hF (by simp [tetherL_length])
  have HB := hide hbits
  clear hbits hF hseg3
  go_wp2_with fail
  clear hcv
  refine (unhide HB).mono ?_
  rintro e w4 ⟨rfl, hb4⟩
  clear HB
  have hbs4 := hb4.size
  obtain ⟨B, hB⟩ : ∃ B, B = wireL [tetherL] := ⟨_, rfl⟩
  rw [← hB]
  have hBe : B = flagL ++ frameL tetherL ++ flagL := by rw [hB]; simp [wireL, framesL]
  have hsz0 := txt_size B
  have hget := txt_get B
  have hx1 : ((⟨(txt B).toArray⟩ : ByteArray).extract 0 8).toList = [48, 49, 49, 49, 49, 49, 49, 48] := by
    rw [hBe]; exact ext_first _
  have hx2 : ((⟨(txt B).toArray⟩ : ByteArray).extract ((⟨(txt B).toArray⟩ : ByteArray).size - 8) (⟨(txt B).toArray⟩ : ByteArray).size).toList = [48, 49, 49, 49, 49, 49, 49, 48] := by
    rw [hBe]; exact ext_last _
  have HBE := hide hBe
  have hdat : (⟨(txt B).toArray⟩ : ByteArray).data.toList = txt B := by simp
  generalize (⟨(txt B).toArray⟩ : ByteArray) = s at hsz0 hget hx1 hx2 hdat
  have HD := hide hdat
  clear hdat
  have hl16 : 16 ≤ s.size := by rw [hsz0, hBe]; simp [flagL]
  have hu : s.size ≤ 1080 := by rw [hsz0, hBe]; have := frameL_length tetherL; simp [flagL]; omega
  have g3 : decide ((s.size : Int) < 16) = false := by simp; omega
  have HZ := hide hsz0
  have HG := hide hget
  clear hB hBe hsz0 hget
  have hms : Hid (s.size = (frameL tetherL).length + 16) := by show s.size = _; rw [unhide HZ, unhide HBE]; simp [flagL]
  have hMg : Hid (∀ k (h : k < (frameL tetherL).length) (h' : 8 + k < s.size), s[8 + k]'h' = chr (frameL tetherL)[k]) := by
    show ∀ k (h : k < (frameL tetherL).length) (h' : 8 + k < s.size), s[8 + k]'h' = chr (frameL tetherL)[k]
    intro k h h'
    have hh : 8 + k < B.length := by rw [← unhide HZ]; exact h'
    rw [unhide HG (8 + k) hh h']
    congr 1
    have := unhide HBE
    subst this
    rw [List.getElem_append_left (by simp [flagL]; omega), List.getElem_append_right (by simp [flagL])]
    simp [flagL]
  have hrun : runOk 0 (frameL tetherL) := stuff_runOk 0 _ (by omega)
  have HR := hide hrun
  clear hrun
  go_wp2
  go_loop [9, 10] (fun o i => ∃ (k r : Nat), k ≤ (frameL tetherL).length ∧ r ≤ 5 ∧ o = .int .i64 r ∧ i = .int .i64 ((8 + k : Nat) : Int) ∧ runOk r ((frameL tetherL).drop k)) (fun _ i => s.size - (intOf i).toNat)
  case atStart => exact ⟨0, 0, by omega, by omega, rfl, rfl, unhide HR⟩
  case round =>
    obtain ⟨k, r, hk, hr, rfl, rfl, hro⟩ := hrel
    by_cases hlt : k < (frameL tetherL).length
    · have hi1 : 8 + k < s.size := by have := unhide hms; omega
      have hb0 := unhide hMg k hlt hi1
      have hdrop : (frameL tetherL).drop k = (frameL tetherL)[k] :: (frameL tetherL).drop (k + 1) := List.drop_eq_getElem_cons hlt
      rw [hdrop] at hro
      generalize (frameL tetherL)[k] = bit at hb0 hro
      have q1 : ((8 + k : Nat) : Int) < (s.size : Int) - 8 := by have := unhide hms; omega
      clear hdrop
      cases bit
      · have HRo := hide hro.1
        clear hro
        have e48 : (s[8 + k]'hi1) = 48 := hb0
        clear hb0
        go_wp2
        go_round
        case rel => exact ⟨k + 1, 0, by omega, by omega, rfl, by go_num, unhide HRo⟩
        case measure => simp [intOf]; omega
      · obtain ⟨hr5, hro2⟩ := hro
        have HRo := hide hro2
        clear hro2
        have e49 : (s[8 + k]'hi1) = 49 := hb0
        have q2 : ¬ (5 : Int) < (r : Int) + 1 := by omega
        clear hb0
        go_wp2
        go_round
        case rel => exact ⟨k + 1, r + 1, by omega, by omega, by go_num, by go_num, unhide HRo⟩
        case measure => simp [intOf]; omega
    · have q1 : ¬ ((8 + k : Nat) : Int) < (s.size : Int) - 8 := by have := unhide hms; omega
      have hfl : 32 ≤ (frameL tetherL).length := by
        have := stuffL_ge 0 (plainL tetherL ++ plainL (sumB tetherL))
        simp only [List.length_append, plainL_length, sumB_length] at this
        unfold frameL
        omega
      have hs48 : 48 ≤ s.size := by have := unhide hms; omega
      clear hro
      go_wp2_with fail
      refine (pick_any n ((s.size : Int) - 16) _ hn (by omega) (by omega)).mono ?_
      rintro e w5 ⟨⟨r, hr1, rfl⟩, hw5⟩
      subst hw5
      have hcv := conv_bytes w5 s
      obtain ⟨W6, hW6⟩ : ∃ W, W = Lib.bytesWorld w5 5 s := ⟨_, rfl⟩
      rw [← hW6] at hcv
      generalize grownCap w5 s.size 0 5 = cp6 at hcv
      have hb6 : Below w5.heap.size w5 W6 := by rw [hW6]; exact bytesWorld_below w5 _
      have hs6 : W6.heap.size = w5.heap.size + 1 := by rw [hW6]; exact Lib.bytesWorld_size _ _ _
      have hrB : 8 + r < B.length := by rw [← unhide HZ]; omega
      have hrM : r < (frameL tetherL).length := by have := unhide hms; omega
      have hbit : B[8 + r] = (frameL tetherL)[r] := by
        have hBe := unhide HBE
        subst hBe
        rw [List.getElem_append_left (by simp [flagL]; omega), List.getElem_append_right (by simp [flagL])]
        simp [flagL]
      have hcell : W6.cell? ⟨w5.heap.size, 8 + r, none⟩ = some (.int .u8 ((chr (frameL tetherL)[r]).toNat : Int)) := by
        rw [hW6, Lib.bytesWorld_cell w5 _ s (8 + r) (by omega), unhide HD, txt_getD B _ hrB, hbit]
      have hfz : W6.frozen? ⟨w5.heap.size, 8 + r, none⟩ = false := by rw [hW6]; exact bytesWorld_frozen w5 s _ (by omega)
      have hseg6 : Seg W6 w5.heap.size 0 (txt B) := by
        have := bytesWorld_seg w5 (txt B)
        have e : (⟨(txt B).toArray⟩ : ByteArray) = s := by
          apply ByteArray.ext
          show (txt B).toArray = s.data
          rw [← unhide HD]
        rw [e, ← hW6] at this
        exact this
      have hB2 : B.set (8 + r) (!(frameL tetherL)[r]) = flagL ++ (frameL tetherL).set r (!(frameL tetherL)[r]) ++ flagL := by
        have hBe := unhide HBE
        rw [hBe, List.append_assoc, List.set_append_right _ _ (by simp [flagL])]
        rw [List.set_append_left _ _ (by simp [flagL]; exact hrM)]
        simp [flagL]
      have hnever := flip_tells tetherL r hrM
      rw [← hB2] at hnever
      have hseg7 := seg_set hseg6 (8 + r) (chr (!(frameL tetherL)[r])) (by rw [txt_length]; exact hrB)
      rw [← txt_set] at hseg7
      have hl7 : (txt (B.set (8 + r) (!(frameL tetherL)[r]))).length = s.size := by rw [txt_length, List.length_set, ← unhide HZ]
      have hcb := hseg7.bytesIn.convert (P := Try.prog) (nums_length _) cp6 28 5 9 Try.underlying28 Try.underlying5 Try.underlying9
      rw [hl7] at hcb
      have est : strOfNums (nums (txt (B.set (8 + r) (!(frameL tetherL)[r])))) = ⟨(txt (B.set (8 + r) (!(frameL tetherL)[r]))).toArray⟩ := by
        have e : ∀ x, strOfNums (nums x) = ⟨(Lib.bytesOf (nums x)).toArray⟩ := fun _ => rfl
        rw [e, bytesOf_nums]
      rw [est] at hcb
      have hBl2 : (B.set (8 + r) (!(frameL tetherL)[r])).length ≤ 1099511627776 := by rw [List.length_set, ← unhide HZ]; omega
      clear hW6 hseg6 hseg7 est hl7 hB2 hbit hrB
      generalize B.set (8 + r) (!(frameL tetherL)[r]) = B2 at hcb hnever hBl2
      generalize (frameL tetherL)[r] = bit at hcell hcb
      have hflip : (97 : Int) - ((chr bit).toNat : Int) = ((chr (!bit)).toNat : Int) := by cases bit <;> decide
      have hcb0 : 48 ≤ ((chr bit).toNat : Int) ∧ ((chr bit).toNat : Int) ≤ 49 := by cases bit <;> decide
      generalize ((chr (!bit)).toNat : Int) = q at hflip hcb
      generalize ((chr bit).toNat : Int) = q0 at hflip hcell hcb0
      have HN := hide hnever
      have HS6 := hide hs6
      clear hnever hs6
      have hlt5 : w1.heap.size < w5.heap.size := by have := hb2.size; have := kh.lt; have := hb3.size; simp at hbs4; omega
      have k7 : HunterAt (W6.setCell ⟨w5.heap.size, 8 + r, none⟩ (.int .u8 q)) w1.heap.size fresh := by
        have ka := kh.keeps (Keeps.of (X := fun _ => False) hb3) id
        have kb := (ka.alloc (.cells #[.slice (some ⟨w2.heap.size, 0, none⟩) 6 cp] 28)).keeps (Keeps.of (X := fun _ => False) hb4) id
        have kc := kb.keeps (Keeps.of (X := fun _ => False) hb6) id
        exact kc.setOther (by show w5.heap.size ≠ w1.heap.size; omega) _
      have hbl7 : Below w.heap.size w (W6.setCell ⟨w5.heap.size, 8 + r, none⟩ (.int .u8 q)) := by
        have a1 := hb1.trans (hb2.mono hs1)
        have a2 := a1.trans (hb3.mono a1.size)
        have a3 := a2.alloc (a2.size) (.cells #[.slice (some ⟨w2.heap.size, 0, none⟩) 6 cp] 28)
        have a4 := a3.trans (hb4.mono a3.size)
        have a5 := a4.trans (hb6.mono a4.size)
        exact a5.setCell (by exact a4.size) _
      have hs7 : w1.heap.size < (W6.setCell ⟨w5.heap.size, 8 + r, none⟩ (.int .u8 q)).heap.size := k7.lt
      have K7 := hide k7
      have B7 := hide hbl7
      clear k7 hbl7 hs7
      go_wp2_with fail
      clear hcb hcell hfz hcv hflip
      have k7 := unhide K7
      have hbl7 := unhide B7
      clear K7 B7
      generalize (W6.setCell ⟨w5.heap.size, 8 + r, none⟩ (.int .u8 q)) = W7 at k7 hbl7
      refine (feed_txt w1.heap.size fresh B2 _ k7 fresh_ok hBl2).mono ?_
      rintro e w8 ⟨v, t, rfl, ht, hT, _, hK8⟩
      obtain ⟨ao, cv, rfl⟩ := hT.form
      have hnev : ∀ (i : Nat) (hi : i < t.length), t[i].1 ≠ (1, tetherL) := by
        intro i hi he
        apply unhide HN
        rw [← ht]
        exact List.mem_map.2 ⟨t[i], List.getElem_mem hi, he⟩
      have hfinal : Below w.heap.size w w8 := by
        refine ⟨hK8.os.trans hbl7.os, hK8.tape.trans hbl7.tape, hK8.output.trans hbl7.output, Nat.le_trans hbl7.size hK8.size, fun kk hkk => ?_⟩
        rw [hK8.block kk (Nat.lt_of_lt_of_le hkk hbl7.size) (by omega), hbl7.block kk hkk]
      have htl : t.length ≤ 1099511627776 := by
        have h1 := congrArg List.length ht
        have h2 := feedH_length fresh B2
        simp at h1
        omega
      have HNV := hide hnev
      have HFI := hide hfinal
      have HTT := hide hT
      clear hnev hfinal hT ht HN hK8 k7 hbl7
      go_wp2
      go_loop [14] (fun i => ∃ k : Nat, k ≤ t.length ∧ i = .int .i64 k) (fun i => t.length - (intOf i).toNat)
      case atStart => exact ⟨0, by omega, rfl⟩
      case round =>
        obtain ⟨i, hi, rfl⟩ := hrel
        by_cases hlt : i < t.length
        · obtain ⟨g, cp2, hv, c0, c1, hby⟩ := (unhide HTT).get i hlt
          have hcv := bytes_string hby
          have hne := unhide HNV i hlt
          generalize t[i] = x at c0 c1 hby hcv hne
          obtain ⟨⟨kd, bs⟩, p, cap⟩ := x
          simp only at c0 c1 hcv
          simp only [Value.slice.injEq] at hv
          obtain ⟨rfl, _, rfl⟩ := hv
          clear hby
          by_cases hk1 : kd = 1
          · subst hk1
            have hbs : bs ≠ tetherL := fun e => hne (by rw [e])
            clear hne
            have hbb : (bs == [116, 101, 116, 104, 101, 114]) = false := by simp; exact hbs
            go_wp2
            go_round
            case rel => exact ⟨i + 1, by omega, by go_num⟩
            case measure => simp [intOf]; omega
          · have hkk : ((kd : Int) == 1) = false := by simp; omega
            go_wp2
            go_round
            case rel => exact ⟨i + 1, by omega, by go_num⟩
            case measure => simp [intOf]; omega
        · go_wp2
          go_ret
          exact ⟨rfl, unhide HFI⟩
end Go.Proofs.Ytkalonhalhdlaaa
