/-
  What one call of Found does: it gives true, whatever the texts and numbers; nothing that was there turns.
-/
import Derived.Test.YtkalonhalhdlaaaLRows
namespace Go.Proofs.Ytkalonhalhdlaaa
open Go.RowKit

/-- What is known of a list of texts, and of one of numbers, that came in. -/
def TextsIn (w : World) (a : Option Addr) (n : Nat) (ss : List ByteArray) : Prop :=
  ∀ i, i < n → ∃ b o, a = some ⟨b, o, none⟩ ∧ b < w.heap.size ∧ w.cell? ⟨b, o + i, none⟩ = some (.string (ss.getD i ByteArray.empty))
def NumsIn (w : World) (a : Option Addr) (n : Nat) (zs : List Int) : Prop :=
  ∀ i, i < n → ∃ b o, a = some ⟨b, o, none⟩ ∧ b < w.heap.size ∧ w.cell? ⟨b, o + i, none⟩ = some (.int .i64 (zs.getD i 0)) ∧ -9223372036854775808 ≤ zs.getD i 0 ∧ zs.getD i 0 ≤ 9223372036854775807

theorem TextsIn.below {w w' : World} {a : Option Addr} {n : Nat} {ss : List ByteArray} (h : TextsIn w a n ss) (hb : Below w.heap.size w w') : TextsIn w' a n ss := by
  intro i hi
  obtain ⟨b, o, h1, h2, h3⟩ := h i hi
  exact ⟨b, o, h1, Nat.lt_of_lt_of_le h2 hb.size, by rw [hb.cell (p := ⟨b, o + i, none⟩) h2]; exact h3⟩
theorem NumsIn.below {w w' : World} {a : Option Addr} {n : Nat} {zs : List Int} (h : NumsIn w a n zs) (hb : Below w.heap.size w w') : NumsIn w' a n zs := by
  intro i hi
  obtain ⟨b, o, h1, h2, h3⟩ := h i hi
  exact ⟨b, o, h1, Nat.lt_of_lt_of_le h2 hb.size, by rw [hb.cell (p := ⟨b, o + i, none⟩) h2]; exact h3⟩

/-- The text is a frame, or is none. -/
def Fit (f : List UInt8) : Prop := 2 ≤ f.length ∧ f.length ≤ 64

set_option maxHeartbeats 16000000 in
set_option maxRecDepth 100000 in
theorem found_any (a0 : Option Addr) (n0 c0 : Nat) (ss : List ByteArray) (s1 : ByteArray) (a2 : Option Addr) (n2 c2 : Nat) (zs : List Int) (w : World)
    (hn0 : n0 ≤ maxLen) (hs1 : s1.size ≤ maxLen) (hn2 : n2 ≤ 1152921504606846976) (hT : TextsIn w a0 n0 ss) (hZ : NumsIn w a2 n2 zs) :
    Calls Try.prog 3 #[.slice a0 n0 c0, .string s1, .slice a2 n2 c2] w fun e w' => e = .returned (.bool true) ∧ Below w.heap.size w w' := by
  unfold maxLen at hn0 hs1
  obtain ⟨i0, hi, hz0, hz1, hz2⟩ := info_parts infoSlice
  have HI := hide (And.intro hi (And.intro hz0 (And.intro hz1 hz2)))
  clear hi hz0 hz1 hz2
  go_enter Try.func3, Try.ntmps3
  go_wp2_with fail
  refine (lines_any _).mono ?_
  rintro e w1 ⟨rfl, hb1⟩
  go_wp2_with fail
  refine (newHunter_any _).mono ?_
  rintro e w2 ⟨rfl, kh, hb2⟩
  have hT2 : TextsIn w2 a0 n0 ss := (hT.below hb1).below hb2
  have hbl2 : Below w.heap.size w w2 := hb1.trans (hb2.mono hb1.size)
  have hw01 := hb1.size
  have hszw : w1.heap.size < w2.heap.size := kh.lt
  have HZ := hide hZ
  have HT2 := hide hT2
  clear hT hZ hT2 hb1 hb2
  go_wp2
  go_loopw [9, 10] (fun v i wr => ∃ (k : Nat) (fs : List (List UInt8)), k ≤ n0 ∧ k ≤ 10 ∧ fs.length ≤ k ∧ i = .int .i64 k ∧ FramesV wr w2.heap.size v fs ∧ (∀ f ∈ fs, Fit f) ∧ Below w2.heap.size w2 wr) (fun _ i _ => 10 - (intOf i).toNat)
  case atStart => exact ⟨0, [], by omega, by omega, by simp, rfl, FramesV.nil _ _, by simp, Below.refl _ _⟩
  case round =>
    obtain ⟨k, fs, hk, hk10, hfl, rfl, hV, hfit, hbw⟩ := hrel
    have hsw := hbw.size
    by_cases hlt : k < n0 ∧ k < 10
    · obtain ⟨hlt1, hlt2⟩ := hlt
      have q1 : decide ((k : Int) < (n0 : Int)) = true := by simp; omega
      have q2 : decide ((k : Int) < 10) = true := by simp; omega
      obtain ⟨b, o, ha, hbb, hcell⟩ := (unhide HT2).below hbw k hlt1
      subst ha
      generalize ss.getD k ByteArray.empty = x at hcell
      by_cases hx1 : x.size ≤ 1
      · have g1 : ¬ (64 : Int) < (x.size : Int) := by omega
        have g2 : ¬ (1 : Int) < (x.size : Int) := by omega
        go_wp2
        go_roundw
        case rel => exact ⟨k + 1, fs, by omega, by omega, by omega, by go_num, hV, hfit, hbw⟩
        case measure => simp [intOf]; omega
      by_cases hx2 : x.size ≤ 64
      · have g1 : ¬ (64 : Int) < (x.size : Int) := by omega
        have g2 : (1 : Int) < (x.size : Int) := by omega
        have hcv := conv_bytes wr x
        obtain ⟨W3, hW3⟩ : ∃ W, W = Lib.bytesWorld wr 5 x := ⟨_, rfl⟩
        have hseg3 : Seg W3 wr.heap.size 0 x.data.toList := by rw [hW3]; exact bytesWorld_seg2 wr _
        have hb3 : Below wr.heap.size wr W3 := by rw [hW3]; exact bytesWorld_below wr _
        have hat3 := Lib.bytesWorld_at_new wr 5 x
        rw [← hW3] at hcv hat3
        have hs3 : W3.heap.size = wr.heap.size + 1 := by rw [hW3]; exact Lib.bytesWorld_size _ _ _
        have HS3 := hide hs3
        clear hW3 hs3
        generalize grownCap wr x.size 0 5 = cp at hcv
        have HAT := hide hat3
        have hV3 := hV.old hb3
        have hs3' := hb3.size
        clear hat3
        obtain ⟨hi, hz0, hz1, hz2⟩ := unhide HI
        obtain ⟨cs, hcs1, hcs2⟩ := hV3
        go_wp2_with (at_builtin; refine wpList_append_own _ rfl _ _ 27 rfl w2.heap.size 28 i0 (.slice none 0 0) 1 24 Try.underlying27 hi hz0 hz1 hz2 rfl (by decide) _ _ _ rfl (hcs1.alloc _) ⟨W3.heap.size, 0, none⟩ 1 1 [.slice (some ⟨wr.heap.size, 0, none⟩) x.size cp] rfl rfl ?mc1 ?mc2 ?mc3 ?mc4 ?mc5 ?_)
        try case mc1 =>
          intro j u hj
          match j, hj with
          | 0, hj => simp at hj; subst hj; simp [Addr.add]
        case mc2 => first | rfl | (intro u hu; simp at hu; subst hu; rfl)
        case mc3 => unfold maxLen; omega
        case mc4 => omega
        case mc5 => first | omega | (simp; omega)
        intro v' w5 hown' hgrow _
        have hll : x.data.toList.length = x.size := by rw [Array.length_toList]; exact rfl
        have hown2 := hown'
        rw [← hll] at hown2
        have R := FramesV.put hcs1 hcs2 hsw (unhide HAT) hseg3 hown2 hgrow
        have hbw5 : Below w2.heap.size w2 w5 := ((hbw.trans (hb3.mono hsw)).alloc (by omega) _).grown hgrow (by simp; omega) (fun kk hk => (R.2 kk hk.symm).1)
        have hfit5 : ∀ f ∈ fs ++ [x.data.toList], Fit f := by
          intro f hf
          rcases List.mem_append.1 hf with hf | hf
          · exact hfit f hf
          · have hf' := List.mem_singleton.1 hf
            subst hf'
            exact ⟨by omega, by omega⟩
        obtain ⟨ao, n', cp', rfl⟩ : ∃ ao n' cp', v' = .slice ao n' cp' := by
          rcases hown'.2 with ⟨hv, _⟩ | ⟨g, cp, cur, hv, _⟩
          · exact ⟨_, _, _, hv⟩
          · exact ⟨_, _, _, hv⟩
        have R1 := hide R.1
        have F5 := hide hfit5
        clear hown' hown2 hgrow R hfit5 hcs1 hcs2 hV hcv hseg3 hb3 hfit
        go_wp2
        go_roundw
        case rel => exact ⟨k + 1, fs ++ [x.data.toList], by omega, by omega, by simp; omega, by go_num, unhide R1, unhide F5, hbw5⟩
        case measure => simp [intOf]; omega
      · have g1 : (64 : Int) < (x.size : Int) := by omega
        have hz64 : (x.extract 0 64).size = 64 := by simp; omega
        have hcv := conv_bytes wr (x.extract 0 64)
        rw [hz64] at hcv
        obtain ⟨W3, hW3⟩ : ∃ W, W = Lib.bytesWorld wr 5 (x.extract 0 64) := ⟨_, rfl⟩
        have hseg3 : Seg W3 wr.heap.size 0 (x.extract 0 64).data.toList := by rw [hW3]; exact bytesWorld_seg2 wr _
        have hb3 : Below wr.heap.size wr W3 := by rw [hW3]; exact bytesWorld_below wr _
        have hat3 := Lib.bytesWorld_at_new wr 5 (x.extract 0 64)
        rw [← hW3] at hcv hat3
        have hs3 : W3.heap.size = wr.heap.size + 1 := by rw [hW3]; exact Lib.bytesWorld_size _ _ _
        have HS3 := hide hs3
        clear hW3 hs3
        generalize grownCap wr 64 0 5 = cp at hcv
        have HAT := hide hat3
        have hV3 := hV.old hb3
        have hs3' := hb3.size
        clear hat3
        obtain ⟨hi, hz0, hz1, hz2⟩ := unhide HI
        obtain ⟨cs, hcs1, hcs2⟩ := hV3
        go_wp2_with (at_builtin; refine wpList_append_own _ rfl _ _ 27 rfl w2.heap.size 28 i0 (.slice none 0 0) 1 24 Try.underlying27 hi hz0 hz1 hz2 rfl (by decide) _ _ _ rfl (hcs1.alloc _) ⟨W3.heap.size, 0, none⟩ 1 1 [.slice (some ⟨wr.heap.size, 0, none⟩) 64 cp] rfl rfl ?lc1 ?lc2 ?lc3 ?lc4 ?lc5 ?_)
        try case lc1 =>
          intro j u hj
          match j, hj with
          | 0, hj => simp at hj; subst hj; simp [Addr.add]
        case lc2 => first | rfl | (intro u hu; simp at hu; subst hu; rfl)
        case lc3 => unfold maxLen; omega
        case lc4 => omega
        case lc5 => first | omega | (simp; omega)
        intro v' w5 hown' hgrow _
        have hll : (x.extract 0 64).data.toList.length = 64 := by rw [Array.length_toList]; exact hz64
        have hown2 := hown'
        rw [← hll] at hown2
        have R := FramesV.put hcs1 hcs2 hsw (unhide HAT) hseg3 hown2 hgrow
        have hbw5 : Below w2.heap.size w2 w5 := ((hbw.trans (hb3.mono hsw)).alloc (by omega) _).grown hgrow (by simp; omega) (fun kk hk => (R.2 kk hk.symm).1)
        have hfit5 : ∀ f ∈ fs ++ [(x.extract 0 64).data.toList], Fit f := by
          intro f hf
          rcases List.mem_append.1 hf with hf | hf
          · exact hfit f hf
          · have hf' := List.mem_singleton.1 hf
            subst hf'
            exact ⟨by omega, by omega⟩
        obtain ⟨ao, n', cp', rfl⟩ : ∃ ao n' cp', v' = .slice ao n' cp' := by
          rcases hown'.2 with ⟨hv, _⟩ | ⟨g, cp, cur, hv, _⟩
          · exact ⟨_, _, _, hv⟩
          · exact ⟨_, _, _, hv⟩
        have R1 := hide R.1
        have F5 := hide hfit5
        clear hown' hown2 hgrow R hfit5 hcs1 hcs2 hV hcv hseg3 hb3 hfit
        go_wp2
        go_roundw
        case rel => exact ⟨k + 1, fs ++ [(x.extract 0 64).data.toList], by omega, by omega, by simp; omega, by go_num, unhide R1, unhide F5, hbw5⟩
        case measure => simp [intOf]; omega
    · have hq : (k < n0 ∧ ¬ (k : Int) < 10) ∨ ¬ (k : Int) < (n0 : Int) := by omega
      have hfl10 : fs.length ≤ 10 := by omega
      obtain ⟨ao, cp, rfl⟩ := hV.form
      have HV := hide hV
      have HFit := hide hfit
      clear hV hfit hlt
      rcases hq with ⟨q1, q2⟩ | q1
      all_goals
        go_wp2_with fail
        refine (bits_v w2.heap.size _ fs _ (unhide HV) (by omega) (unhide HFit)).mono ?_
        rintro e w3 ⟨rfl, hb3⟩
        have hV3 := hide ((unhide HV).old hb3)
        have hbl3 : Below w2.heap.size w2 w3 := hbw.trans (hb3.mono hsw)
        have hs3 := hbl3.size
        clear HV hb3 hbw q1
        go_wp2
        go_loopw [14, 15] (fun t i wr => ∃ (k : Nat) (tb : List Bool), k ≤ s1.size ∧ k ≤ 200 ∧ tb.length ≤ 200 ∧ tb.length = k ∧ i = .int .i64 k ∧ t = .string ⟨(txt tb).toArray⟩ ∧ Below w3.heap.size w3 wr) (fun _ i _ => 200 - (intOf i).toNat)
        case atStart => exact ⟨0, [], by omega, by omega, by simp, rfl, rfl, rfl, Below.refl _ _⟩
        case round =>
          obtain ⟨k, tb, hk, hk200, htb, htk, rfl, rfl, hbw⟩ := hrel
          have hsw3 := hbw.size
          have HTK := hide htk
          clear htk
          by_cases hlt : k < s1.size ∧ k < 200
          · obtain ⟨hlt1, hlt2⟩ := hlt
            have htl : (txt tb).length ≤ 200 := by rw [txt_length]; exact htb
            have hm : ((s1[k]'hlt1).toNat : Int) % 2 = 0 ∨ ((s1[k]'hlt1).toNat : Int) % 2 = 1 := by omega
            rcases hm with hm | hm
            · go_wp2
              go_roundw
              case rel =>
                have htk := unhide HTK
                exact ⟨k + 1, tb ++ [false], by omega, by omega, by simp; omega, by simp; omega, by go_num, congrArg Value.string (txt_cat tb [false]), hbw.alloc hsw3 _⟩
              case measure => simp [intOf]; omega
            · go_wp2
              go_roundw
              case rel =>
                have htk := unhide HTK
                exact ⟨k + 1, tb ++ [true], by omega, by omega, by simp; omega, by simp; omega, by go_num, congrArg Value.string (txt_cat tb [true]), hbw.alloc hsw3 _⟩
              case measure => simp [intOf]; omega
          · have hq2 : (k < s1.size ∧ ¬ (k : Int) < 200) ∨ ¬ (k : Int) < (s1.size : Int) := by omega
            clear hlt
            rcases hq2 with ⟨q1, q2⟩ | q1
            all_goals
              have htl : (txt tb).length + 7 ≤ 300 := by rw [txt_length]; omega
              go_wp2_with fail
              clear q1 htl
              rw [← six_txt, txt_cat]
              have hV4 := hide ((unhide hV3).old hbw)
              have kw4 : HunterAt wr w1.heap.size fresh := (kh.keeps (Keeps.of (X := fun _ => False) hbl3) id).keeps (Keeps.of (X := fun _ => False) hbw) id
              have hbl4 : Below w2.heap.size w2 wr := hbl3.trans (hbw.mono hs3)
              clear hV3 hbw hbl3
              refine (feed_txt w1.heap.size fresh _ _ kw4 fresh_ok (by rw [List.length_append, sixL_length]; omega)).mono ?_
              rintro e w5 ⟨v5, t5, rfl, _, hT5, k5, hK5⟩
              obtain ⟨ao5, cv5, rfl⟩ := hT5.form
              have ok5 := feedH_ok fresh (tb ++ sixL) fresh_ok
              have sim5 := (sim_feed fresh ⟨false, 0, []⟩ (tb ++ sixL) sim_fresh).1
              have c5 := six_c ⟨false, 0, []⟩ tb
              have hV5 := hide ((unhide hV4).keeps hK5 (fun k hX c fz => by subst hX; rw [show wr.heap[w1.heap.size]? = _ from kw4]; simp))
              have hblw4 : Below w.heap.size w wr := hbl2.trans (hbl4.mono hbl2.size)
              have hw1 := hbl2.size
              have hblw5 : Below w.heap.size w w5 := by
                refine ⟨hK5.os.trans hblw4.os, hK5.tape.trans hblw4.tape, hK5.output.trans hblw4.output, Nat.le_trans hblw4.size hK5.size, fun kk hkk => ?_⟩
                rw [hK5.block kk (Nat.lt_of_lt_of_le hkk hblw4.size) (by omega), hblw4.block kk hkk]
              generalize (feedI ⟨false, 0, []⟩ (tb ++ sixL)).1 = s5 at sim5 c5
              generalize (feedH fresh (tb ++ sixL)).1 = h5 at k5 ok5 sim5
              have hsz5 := hK5.size
              clear hT5 hV4 hK5 kw4 hbl4 hblw4
              have hf6 := feed_txt w1.heap.size h5 nineL w5 k5 ok5 (by rw [nineL_length]; omega)
              rw [nine_txt] at hf6
              have HF6 := hide hf6
              clear hf6
              go_wp2_with fail
              refine (unhide HF6).mono ?_
              rintro e w6 ⟨v6, t6, rfl, _, hT6, k6, hK6⟩
              clear HF6
              obtain ⟨ao6, cv6, rfl⟩ := hT6.form
              have ok6 := feedH_ok h5 nineL ok5
              have sim6 := nine_clean h5 s5 sim5 c5
              have hV6 := hide ((unhide hV5).keeps hK6 (fun k hX c fz => by subst hX; rw [show w5.heap[w1.heap.size]? = _ from k5]; simp))
              have hblw6 : Below w.heap.size w w6 := by
                refine ⟨hK6.os.trans hblw5.os, hK6.tape.trans hblw5.tape, hK6.output.trans hblw5.output, Nat.le_trans hblw5.size hK6.size, fun kk hkk => ?_⟩
                rw [hK6.block kk (Nat.lt_of_lt_of_le hkk hblw5.size) (by omega), hblw5.block kk hkk]
              have hwt := wire_told _ _ sim6 (Or.inl rfl) fs (unhide HFit)
              generalize (feedH h5 nineL).1 = h6 at k6 ok6 sim6 hwt
              clear hT6 hV5 hK6 k5 ok5 sim5 c5 hblw5 sim6
              have HWT := hide hwt
              have hwl : (wireL fs).length ≤ 100000 := by
                have := framesL_length fs fun f hf => (unhide HFit f hf).2
                simp [wireL, flagL]
                omega
              clear hwt
              have hsz6 := hblw6.size
              have hV6s := (unhide hV6)
              have hk6lt := k6.lt
              go_wp2
              go_loopw [12, 16, 17] (fun s n i wr => ∃ (r : List Bool) (m j : Nat) (hc : HS), s = .string ⟨(txt r).toArray⟩ ∧ n = .int .i64 m ∧ i = .int .i64 j ∧ j ≤ n2 + 1 ∧ m ≤ fs.length ∧ r.length ≤ 100000 ∧ hc.ok ∧ HunterAt wr w1.heap.size hc ∧ FramesV wr w2.heap.size (.slice ao fs.length cp) fs ∧ Below w.heap.size w wr ∧ (feedH hc r).2 = (fs.drop m).map (fun f => (1, f)) ∧ (n2 < j → r = [])) (fun s _ i _ => (n2 - (intOf i).toNat) + min 1 (strLen s))
              case atStart => exact ⟨wireL fs, 0, 0, h6, rfl, rfl, rfl, by omega, by omega, hwl, ok6, k6, unhide hV6, hblw6, unhide HWT, fun h => by omega⟩
              case round =>
                clear hV6s k6 ok6 hV6 hblw6 HWT
                obtain ⟨r, m, j, hc, rfl, rfl, rfl, hj, hm, hr, okc, kc, hVc, hblc, hfd, hjr⟩ := hrel
                have HV := hide hVc
                have HFD := hide hfd
                have HJR := hide hjr
                clear hVc hfd hjr
                by_cases hr0 : r = []
                · have hem : (txt r).isEmpty = true := by rw [hr0]; rfl
                  have hmm : ((m : Int) == (fs.length : Int)) = true := by
                    have h1 := unhide HFD
                    rw [hr0] at h1
                    have h2 := congrArg List.length h1
                    simp [feedH] at h2
                    simp
                    omega
                  clear hr0
                  go_wp2
                  go_ret
                  exact ⟨rfl, hblc⟩
                · have hem : (txt r).isEmpty = false := by
                    cases r with
                    | nil => exact absurd rfl hr0
                    | cons x y => rfl
                  have hjn : j ≤ n2 := by
                    rcases Nat.lt_or_ge n2 j with h | h
                    · exact absurd (unhide HJR h) hr0
                    · exact h
                  have hrl : (txt r).length = r.length := txt_length r
                  have hr1 : 1 ≤ r.length := by
                    cases r with
                    | nil => exact absurd rfl hr0
                    | cons x y => simp
                  clear hr0
                  by_cases hjlt : j < n2
                  · obtain ⟨pb, po, ha, hpb, hcell, hz1, hz2⟩ := (unhide HZ).below hblc j hjlt
                    subst ha
                    generalize zs.getD j 0 = z at hcell hz1 hz2
                    go_wp2_with fail
                    refine (pick_any z ((r.length : Int) + 1) _ ⟨hz1, hz2⟩ (by omega) (by omega)).mono ?_
                    rintro e w6' ⟨⟨q, hq1, rfl⟩, hw6'⟩
                    subst hw6'
                    have hq2 : q ≤ r.length := by omega
                    have hq3 : (q : Int) ≤ (r.length : Int) := by omega
                    go_wp2_with fail
                    rw [extract_txt r 0 q, List.drop_zero]
                    refine (feed_txt w1.heap.size hc (r.take q) _ kc okc (by rw [List.length_take]; omega)).mono ?_
                    rintro e w7 ⟨v7, t7, rfl, ht7, hT7, k7, hK7⟩
                    obtain ⟨ao7, cv7, rfl⟩ := hT7.form
                    have hF : t7.map Prod.fst ++ (feedH (feedH hc (r.take q)).1 (r.drop q)).2 = (fs.drop m).map (fun f => (1, f)) := by
                      have hcut := feedH_append hc (r.take q) (r.drop q)
                      rw [List.take_append_drop] at hcut
                      rw [ht7, ← unhide HFD, hcut]
                    have ok7 := feedH_ok hc (r.take q) okc
                    have hV7 := hide ((unhide HV).keeps hK7 (fun k hX c fz => by subst hX; have q0 := kc; unfold HunterAt at q0; rw [q0]; simp))
                    have hbl7 : Below w.heap.size w w7 := by
                      refine ⟨hK7.os.trans hblc.os, hK7.tape.trans hblc.tape, hK7.output.trans hblc.output, Nat.le_trans hblc.size hK7.size, fun kk hkk => ?_⟩
                      rw [hK7.block kk (Nat.lt_of_lt_of_le hkk hblc.size) (by omega), hblc.block kk hkk]
                    have htl7 : t7.length ≤ fs.length - m := by
                      have := congrArg List.length hF
                      simp at this
                      omega
                    generalize (feedH hc (r.take q)).1 = h7 at k7 ok7 hF
                    have hex : (⟨(txt r).toArray⟩ : ByteArray).extract q r.length = ⟨(txt (r.drop q)).toArray⟩ := by rw [extract_txt r q r.length, List.take_length]
                    have HF := hide hF
                    have HT7 := hide hT7
                    have HB7 := hide hbl7
                    have hdl : (r.drop q).length ≤ 100000 := by rw [List.length_drop]; omega
                    clear hF hT7 hbl7 hK7 ht7 HV HFD kc okc hblc
                    go_wp2
                    go_loopw [16, 21] (fun n i wr => ∃ (i' : Nat), i' ≤ t7.length ∧ i = .int .i64 i' ∧ n = .int .i64 ((m + i' : Nat) : Int) ∧ Keeps (fun _ => False) w7 wr) (fun _ i _ => t7.length - (intOf i).toNat)
                    case atStart => exact ⟨0, by omega, rfl, rfl, Keeps.refl _ _⟩
                    case round =>
                      obtain ⟨i, hi, rfl, rfl, hK8⟩ := hrel
                      by_cases hilt : i < t7.length
                      · have hmi : m + i < fs.length := by omega
                        obtain ⟨g, cp2, hv, c0', c1', hby⟩ := ((unhide HT7).keeps hK8 (fun _ h => absurd h id)).get i hilt
                        obtain ⟨g2, cp3, b2, cap2, hv2, hg2, c2', hb2', hsg⟩ := ((unhide hV7).keeps hK8 (fun _ h => absurd h id)).get (m + i) hmi
                        have hcv := fun nq => bytes_string (w := wr.drewN nq) hby
                        have hti : t7[i].1 = (1, fs.getD (m + i) []) := by
                          have h1 := congrArg (fun l => l[i]?) (unhide HF)
                          rw [List.getElem?_append_left (by simpa using hilt)] at h1
                          simp [hilt, hmi] at h1
                          rw [h1]
                          simp [List.getD, hmi]
                        have hcv2 := fun nq => Lib.BytesIn.convert (w := wr.drewN nq) hsg.bytesIn (P := Try.prog) (nums_length _) cap2 28 5 9 Try.underlying28 Try.underlying5 Try.underlying9
                        have est : strOfNums (nums (fs.getD (m + i) [])) = ⟨(fs.getD (m + i) []).toArray⟩ := by
                          have e : ∀ x, strOfNums (nums x) = ⟨(Lib.bytesOf (nums x)).toArray⟩ := fun _ => rfl
                          rw [e, bytesOf_nums]
                        simp only [est] at hcv2
                        simp only [hti] at c0' c1' hcv
                        clear hby est hsg hti
                        generalize t7[i] = x at c0' c1' hcv
                        generalize fs.getD (m + i) [] = f at c1' c2' hcv hcv2
                        simp only [Value.slice.injEq] at hv hv2
                        obtain ⟨rfl, _, rfl⟩ := hv
                        obtain ⟨rfl, _, rfl⟩ := hv2
                        have g1 : decide ((fs.length : Int) ≤ (m : Int) + (i : Int)) = false := by simp; omega
                        have hmi' : (m : Int) + (i : Int) < (fs.length : Int) := by omega
                        have hi' : (i : Int) < (t7.length : Int) := by omega
                        have hK9 := hide hK8
                        go_wp2
                        go_quiet (fail)
                        go_wp2
                        go_roundw
                        case rel => exact ⟨i + 1, by omega, by go_num, by go_num, (unhide hK9).drewN _⟩
                        case measure => simp [intOf]; omega
                      · have hie : i = t7.length := by omega
                        have hV9 := (unhide hV7).keeps hK8 (fun _ h => absurd h id)
                        have k9 := k7.keeps hK8 id
                        have hb9 : Below w.heap.size w wr := by
                          have hb7 := unhide HB7
                          refine ⟨hK8.os.trans hb7.os, hK8.tape.trans hb7.tape, hK8.output.trans hb7.output, Nat.le_trans hb7.size hK8.size, fun kk hkk => ?_⟩
                          rw [hK8.block kk (Nat.lt_of_lt_of_le hkk hb7.size) id, hb7.block kk hkk]
                        have hF9 : (feedH h7 (r.drop q)).2 = (fs.drop (m + i)).map (fun f => (1, f)) := by
                          have h1 := congrArg (List.drop t7.length) (unhide HF)
                          rw [List.drop_left' (by simp), ← List.map_drop, List.drop_drop] at h1
                          rw [h1, hie]
                        have hlt9 : ¬ (i : Int) < (t7.length : Int) := by omega
                        have HV9 := hide hV9
                        have HF9 := hide hF9
                        clear hV9 hF9 HF hV7 HT7 hK8 hie
                        go_wp2
                        go_roundw
                        case rel => exact ⟨r.drop q, m + i, j + 1, h7, rfl, by go_num, by go_num, by omega, by omega, hdl, ok7, k9, unhide HV9, hb9, unhide HF9, fun h => by omega⟩
                        case measure =>
                          simp only [intOf, strLen, txt_size, List.length_drop]
                          omega
                  · have hj2 : ¬ (j : Int) < (n2 : Int) := by omega
                    go_wp2_with fail
                    rw [extract_txt r 0 r.length, List.drop_zero]
                    refine (feed_txt w1.heap.size hc (r.take r.length) _ kc okc (by rw [List.length_take]; omega)).mono ?_
                    rintro e w7 ⟨v7, t7, rfl, ht7, hT7, k7, hK7⟩
                    obtain ⟨ao7, cv7, rfl⟩ := hT7.form
                    have hF : t7.map Prod.fst ++ (feedH (feedH hc (r.take r.length)).1 (r.drop r.length)).2 = (fs.drop m).map (fun f => (1, f)) := by
                      have hcut := feedH_append hc (r.take r.length) (r.drop r.length)
                      rw [List.take_append_drop] at hcut
                      rw [ht7, ← unhide HFD, hcut]
                    have ok7 := feedH_ok hc (r.take r.length) okc
                    have hV7 := hide ((unhide HV).keeps hK7 (fun k hX c fz => by subst hX; have q0 := kc; unfold HunterAt at q0; rw [q0]; simp))
                    have hbl7 : Below w.heap.size w w7 := by
                      refine ⟨hK7.os.trans hblc.os, hK7.tape.trans hblc.tape, hK7.output.trans hblc.output, Nat.le_trans hblc.size hK7.size, fun kk hkk => ?_⟩
                      rw [hK7.block kk (Nat.lt_of_lt_of_le hkk hblc.size) (by omega), hblc.block kk hkk]
                    have htl7 : t7.length ≤ fs.length - m := by
                      have := congrArg List.length hF
                      simp at this
                      omega
                    generalize (feedH hc (r.take r.length)).1 = h7 at k7 ok7 hF
                    have hex : (⟨(txt r).toArray⟩ : ByteArray).extract r.length r.length = ⟨(txt (r.drop r.length)).toArray⟩ := by rw [extract_txt r r.length r.length, List.take_length]
                    have HF := hide hF
                    have HT7 := hide hT7
                    have HB7 := hide hbl7
                    have hdl : (r.drop r.length).length ≤ 100000 := by rw [List.length_drop]; omega
                    clear hF hT7 hbl7 hK7 ht7 HV HFD kc okc hblc
                    go_wp2
                    go_loopw [16, 21] (fun n i wr => ∃ (i' : Nat), i' ≤ t7.length ∧ i = .int .i64 i' ∧ n = .int .i64 ((m + i' : Nat) : Int) ∧ Keeps (fun _ => False) w7 wr) (fun _ i _ => t7.length - (intOf i).toNat)
                    case atStart => exact ⟨0, by omega, rfl, rfl, Keeps.refl _ _⟩
                    case round =>
                      obtain ⟨i, hi, rfl, rfl, hK8⟩ := hrel
                      by_cases hilt : i < t7.length
                      · have hmi : m + i < fs.length := by omega
                        obtain ⟨g, cp2, hv, c0', c1', hby⟩ := ((unhide HT7).keeps hK8 (fun _ h => absurd h id)).get i hilt
                        obtain ⟨g2, cp3, b2, cap2, hv2, hg2, c2', hb2', hsg⟩ := ((unhide hV7).keeps hK8 (fun _ h => absurd h id)).get (m + i) hmi
                        have hcv := fun nq => bytes_string (w := wr.drewN nq) hby
                        have hti : t7[i].1 = (1, fs.getD (m + i) []) := by
                          have h1 := congrArg (fun l => l[i]?) (unhide HF)
                          rw [List.getElem?_append_left (by simpa using hilt)] at h1
                          simp [hilt, hmi] at h1
                          rw [h1]
                          simp [List.getD, hmi]
                        have hcv2 := fun nq => Lib.BytesIn.convert (w := wr.drewN nq) hsg.bytesIn (P := Try.prog) (nums_length _) cap2 28 5 9 Try.underlying28 Try.underlying5 Try.underlying9
                        have est : strOfNums (nums (fs.getD (m + i) [])) = ⟨(fs.getD (m + i) []).toArray⟩ := by
                          have e : ∀ x, strOfNums (nums x) = ⟨(Lib.bytesOf (nums x)).toArray⟩ := fun _ => rfl
                          rw [e, bytesOf_nums]
                        simp only [est] at hcv2
                        simp only [hti] at c0' c1' hcv
                        clear hby est hsg hti
                        generalize t7[i] = x at c0' c1' hcv
                        generalize fs.getD (m + i) [] = f at c1' c2' hcv hcv2
                        simp only [Value.slice.injEq] at hv hv2
                        obtain ⟨rfl, _, rfl⟩ := hv
                        obtain ⟨rfl, _, rfl⟩ := hv2
                        have g1 : decide ((fs.length : Int) ≤ (m : Int) + (i : Int)) = false := by simp; omega
                        have hmi' : (m : Int) + (i : Int) < (fs.length : Int) := by omega
                        have hi' : (i : Int) < (t7.length : Int) := by omega
                        have hK9 := hide hK8
                        go_wp2
                        go_quiet (fail)
                        go_wp2
                        go_roundw
                        case rel => exact ⟨i + 1, by omega, by go_num, by go_num, (unhide hK9).drewN _⟩
                        case measure => simp [intOf]; omega
                      · have hie : i = t7.length := by omega
                        have hV9 := (unhide hV7).keeps hK8 (fun _ h => absurd h id)
                        have k9 := k7.keeps hK8 id
                        have hb9 : Below w.heap.size w wr := by
                          have hb7 := unhide HB7
                          refine ⟨hK8.os.trans hb7.os, hK8.tape.trans hb7.tape, hK8.output.trans hb7.output, Nat.le_trans hb7.size hK8.size, fun kk hkk => ?_⟩
                          rw [hK8.block kk (Nat.lt_of_lt_of_le hkk hb7.size) id, hb7.block kk hkk]
                        have hF9 : (feedH h7 (r.drop r.length)).2 = (fs.drop (m + i)).map (fun f => (1, f)) := by
                          have h1 := congrArg (List.drop t7.length) (unhide HF)
                          rw [List.drop_left' (by simp), ← List.map_drop, List.drop_drop] at h1
                          rw [h1, hie]
                        have hlt9 : ¬ (i : Int) < (t7.length : Int) := by omega
                        have HV9 := hide hV9
                        have HF9 := hide hF9
                        clear hV9 hF9 HF hV7 HT7 hK8 hie
                        go_wp2
                        go_roundw
                        case rel => exact ⟨r.drop r.length, m + i, j + 1, h7, by rw [List.drop_length]; rfl, by go_num, by go_num, by omega, by omega, hdl, ok7, k9, unhide HV9, hb9, unhide HF9, fun _ => List.drop_length⟩
                        case measure =>
                          have e0 : ByteArray.empty.size = 0 := rfl
                          simp only [intOf, strLen, txt_size, e0]
                          omega
end Go.Proofs.Ytkalonhalhdlaaa
