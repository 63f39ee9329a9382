/-
  What one call of Written does.
-/
import Derived.Test.YtkalonhalhdlaaaDoorFBase
import Derived.Test.YtkalonhalhdlaaaDoorFWrite
import Derived.Test.YtkalonhalhdlaaaDoorFCells
import Derived.Test.YtkalonhalhdlaaaDoorFReads
import Derived.Test.YtkalonhalhdlaaaDoorFRound
import Derived.Test.YtkalonhalhdlaaaDoorLConv
import Derived.Deep.Cut
import Derived.Deep.CutRange
import Derived.Deep.CutBlock
namespace Go.Proofs.YtkalonhalhdlaaaDoor
open Go.RowKit

theorem info_i (m : Nat) (n : Nat) (h : n ≤ 32) : infoF m (1 : Nat) n = true := by simp [infoF]; omega
theorem info_none (m k : Nat) (h1 : k ≠ 1) (h9 : k ≠ 9) : infoF m k (0 : Nat) = true := by
  unfold infoF
  rw [if_neg (by omega), if_neg (by omega)]
  rfl
theorem low_byte (n : Int) : ∃ x : UInt8, IntKind.u8.wrap n = (x.toNat : Int) := by
  refine ⟨UInt8.ofNat (n % 256).toNat, ?_⟩
  have h0 := Int.emod_nonneg n (show (256 : Int) ≠ 0 by omega)
  have h1 := Int.emod_lt_of_pos n (show (0 : Int) < 256 by omega)
  have : (UInt8.ofNat (n % 256).toNat).toNat = (n % 256).toNat := u8n (by omega)
  rw [this, IntKind.wrap_u8]
  omega

set_option maxHeartbeats 4000000 in
set_option maxRecDepth 100000 in
theorem written_any (wide' : Bool) (address kind ns nr : Int) (poll : Bool) (info : ByteArray) (w : World) (hC : Ctl w) (hs : 0 < w.heap.size)
    (b1 : -9223372036854775808 ≤ address ∧ address ≤ 9223372036854775807) (b2 : -9223372036854775808 ≤ kind ∧ kind ≤ 9223372036854775807) (b3 : -9223372036854775808 ≤ ns ∧ ns ≤ 9223372036854775807) (b4 : -9223372036854775808 ≤ nr ∧ nr ≤ 9223372036854775807) :
    Calls Tryd.prog 3 #[.bool wide', .int .i64 address, .int .i64 kind, .bool poll, .int .i64 ns, .int .i64 nr, .string info] w fun e w' => e = .returned (.bool true) ∧ Below w.heap.size w w' := by
  have p1 := fun w => pick_val address 2 w b1 (by omega) (by omega)
  have p2 := fun w => pick_val kind 9 w b2 (by omega) (by omega)
  have p3 := fun (m : Nat) (hm : m = 8 ∨ m = 128) w => pick_val ns m w b3 (by omega) (by omega)
  have p4 := fun (m : Nat) (hm : m = 8 ∨ m = 128) w => pick_val nr m w b4 (by omega) (by omega)
  have har := pickN_lt address 2 (by omega)
  have hkr := pickN_lt kind 9 (by omega)
  generalize pickN address 2 = ar at p1 har
  generalize pickN kind 9 = kr at p2 hkr
  have hR : Calls Tryd.prog 8 #[.int .i64 8, .slice (some ⟨w.heap.size, 0, none⟩) 2 2] (w.alloc (.cells #[.int .u8 3, .int .u8 63] 5)) fun e w' => ∃ q cp, e = .returned (.tuple #[.agg #[.int .i64 3, .int .i64 5, .bool true, .int .i64 0, .int .i64 0, .slice q 0 cp], .int .i64 0]) ∧ Below w.heap.size w w' := by
    have hA := (Below.refl w.heap.size w).alloc (Nat.le_refl _) (.cells #[.int .u8 3, .int .u8 63] 5)
    have h := read_any 8 (some ⟨w.heap.size, 0, none⟩) 2 [3, 63] (w.alloc (.cells #[.int .u8 3, .int .u8 63] 5)) (.inr ⟨w.heap.size, 0, rfl, by simp, fun i hi => by
        have h2 : i = 0 ∨ i = 1 := by simp at hi; omega
        rcases h2 with rfl | rfl <;> simp⟩) (hC.below hA (by omega)) (by simp) (by simp) (by simp) (by omega)
    have e : readL 8 [3, 63] = (0, ⟨3, 5, true, 0, 0, []⟩) := by kernel_rfl
    rw [e] at h
    refine h.mono ?_
    rintro r w' ⟨q, cp, rfl, _, _, hb⟩
    exact ⟨q, cp, rfl, hA.trans (hb.mono (by simp))⟩
  have HR := hide hR
  clear hR
  go_enter Tryd.func3, Tryd.ntmps3
  go_wp2_with fail
  refine (unhide HR).mono ?_
  rintro e W1 ⟨q0, c0, rfl, hb1⟩
  clear HR
  have HP1 := hide p1
  have HP2 := hide p2
  have HP3 := hide p3
  have HP4 := hide p4
  clear p1 p2 p3 p4
  go_upto_if 38 with fail
  go_cut [17] from 21 (fun s17 wx => ∃ m : Nat, (m = 8 ∨ m = 128) ∧ s17 = .int .i64 m ∧ Below w.heap.size w wx)
  case first =>
    cases wide'
    · go_wp2
      go_meet
      case rel => exact ⟨8, .inl rfl, rfl, hb1.alloc hb1.size _⟩
    · go_wp2
      go_meet
      case rel => exact ⟨128, .inr rfl, rfl, hb1.alloc hb1.size _⟩
  case rest =>
    obtain ⟨m, hm, rfl, hbc⟩ := hcut
    clear hb1
    go_wp2_with fail
    refine (unhide HP1 _).mono ?_
    rintro e W2 ⟨rfl, rfl⟩
    go_wp2_with fail
    refine (unhide HP2 _).mono ?_
    rintro e W2 ⟨rfl, rfl⟩
    clear HP1 HP2
    go_upto_if 50 with fail
    go_cut [] from 21 (fun wx => ∃ nrv : Nat, (kr ≤ 3 → nrv < m) ∧ (3 < kr → nrv = 0) ∧ wx = W2.alloc (.cells #[.int .i64 (1 + 2 * (ar : Int)), .int .i64 (1 + (kr : Int)), .bool poll, .int .i64 0, .int .i64 (nrv : Int), .slice none 0 0] 24))
    case first =>
      by_cases h3 : kr ≤ 3
      · have g1 : (1 : Int) + (kr : Int) ≤ 4 := by omega
        go_wp2_with fail
        refine (unhide HP4 m hm _).mono ?_
        rintro e W3 ⟨rfl, rfl⟩
        go_wp2
        go_meet
        case rel => exact ⟨pickN nr m, fun _ => by have := pickN_lt nr m (by omega); omega, fun h => by omega, rfl⟩
      · have g1 : ¬ (1 : Int) + (kr : Int) ≤ 4 := by omega
        go_wp2
        go_meet
        case rel => exact ⟨0, fun h => by omega, fun _ => rfl, rfl⟩
    case rest =>
      obtain ⟨nrv, hnr1, hnr2, rfl⟩ := hcut
      have hbz := hbc.size
      go_upto_block 0 with fail
      go_cut [] from 21 (fun wx => ∃ (nsv : Nat) (q : Option Addr) (il : List UInt8) (c : Nat), (kr = 0 → nsv < m) ∧ (kr ≠ 0 → nsv = 0) ∧ infoF m (1 + kr : Nat) il.length = true ∧ FrCells wx W2.heap.size (1 + 2 * (ar : Int)) (1 + (kr : Int)) poll nsv nrv (.slice q il.length c) ∧ SrcIs wx q il ∧ Below w.heap.size w wx ∧ W2.heap.size < wx.heap.size)
      case first =>
        have hk3 : kr = 0 ∨ kr = 8 ∨ (kr ≠ 0 ∧ kr ≠ 8) := by omega
        rcases hk3 with rfl | rfl | ⟨hk0, hk8⟩
        · go_wp2_with fail
          refine (unhide HP3 m hm _).mono ?_
          rintro e W3 ⟨rfl, rfl⟩
          have hns := pickN_lt ns m (by omega)
          generalize pickN ns m = nsv at hns
          go_upto_if 65 with fail
          obtain ⟨Wf, hWf⟩ : ∃ Wf, Wf = W2.alloc (.cells #[.int .i64 (1 + 2 * (ar : Int)), .int .i64 1, .bool poll, .int .i64 (nsv : Int), .int .i64 (nrv : Int), .slice none 0 0] 24) := ⟨_, rfl⟩
          rw [← hWf]
          have hF : FrCells Wf W2.heap.size (1 + 2 * (ar : Int)) 1 poll nsv nrv (.slice none 0 0) := by rw [hWf]; exact FrCells.new W2 _ _ _ _ _ _
          have hf5 : Wf.frozen? ⟨W2.heap.size, 5, none⟩ = false := by rw [hWf]; simp
          have hbf : Below w.heap.size w Wf := by rw [hWf]; exact hbc.alloc hbz _
          have hzf : Wf.heap.size = W2.heap.size + 1 := by rw [hWf]; simp
          clear hWf
          go_cut [6] from 21 (fun s6 wx => ∃ s : ByteArray, s.size ≤ 32 ∧ s6 = .string s ∧ wx = Wf)
          case first =>
            by_cases h32 : info.size ≤ 32
            · have g1 : ¬ (32 : Int) < (info.size : Int) := by omega
              go_wp2
              go_meet
              case rel => exact ⟨info, h32, rfl, rfl⟩
            · have g1 : (32 : Int) < (info.size : Int) := by omega
              go_wp2
              go_meet
              case rel => exact ⟨info.extract 0 32, by simp; omega, rfl, rfl⟩
          case rest =>
            obtain ⟨s, hs32, rfl, rfl⟩ := hcut
            have hcv := conv_bytes wc s
            obtain ⟨W3, hW3⟩ : ∃ W, W = Lib.bytesWorld wc 5 s := ⟨_, rfl⟩
            have hseg3 : Seg W3 wc.heap.size 0 s.data.toList := by rw [hW3]; exact bytesWorld_seg2 wc _
            have hb3 : Below wc.heap.size wc W3 := by rw [hW3]; exact bytesWorld_below wc _
            have hs3 : W3.heap.size = wc.heap.size + 1 := by rw [hW3]; exact Lib.bytesWorld_size _ _ _
            rw [← hW3] at hcv
            clear hW3
            generalize grownCap wc s.size 0 5 = cp at hcv
            have hF3 := hF.below hb3 (by omega)
            have k5 := hF3.c5
            have kf5 : W3.frozen? ⟨W2.heap.size, 5, none⟩ = false := by rw [hb3.frozen (p := ⟨W2.heap.size, 5, none⟩) (by show W2.heap.size < _; omega)]; exact hf5
            have HF3 := hide hF3
            clear hF3
            go_wp2
            go_meet
            case rel =>
              have hl : s.data.toList.length = s.size := by rw [Array.length_toList]; rfl
              refine ⟨nsv, some ⟨W2.heap.size + 1, 0, none⟩, s.data.toList, cp, fun _ => by omega, fun h => absurd rfl h, info_i m _ (by omega), ?_, .inr ⟨W2.heap.size + 1, 0, rfl, ?_, ?_⟩, ?_, ?_⟩
              · rw [hl]; exact (unhide HF3).set5 _
              · rw [size_set]; omega
              · rw [hzf] at hseg3; exact hseg3.set _ (by show W2.heap.size + 1 ≠ W2.heap.size; omega) _
              · exact (hbf.trans (hb3.mono hbf.size)).setCell (by show _ ≤ W2.heap.size; omega) _
              · rw [size_set]; omega
        · have hns := low_byte ns
          have hnr := low_byte nr
          obtain ⟨x1, hx1⟩ := hns
          obtain ⟨x2, hx2⟩ := hnr
          rcases hm with rfl | rfl
          · go_wp2
            go_meet
            case rel =>
              have hn0 : nrv = 0 := hnr2 (by omega)
              subst hn0
              refine ⟨0, some ⟨W2.heap.size + 1, 0, none⟩, [1, x1, x2], 5, fun h => absurd h (by omega), fun _ => rfl, by kernel_rfl, ?_, .inr ⟨W2.heap.size + 1, 0, rfl, by simp, ?_⟩, (hbc.alloc hbz _).alloc (by simp; omega) _, by simp; omega⟩
              · exact (FrCells.new W2 (1 + 2 * (ar : Int)) 9 poll 0 0 (.slice (some ⟨W2.heap.size + 1, 0, none⟩) 3 5)).below ((Below.refl _ _).alloc (Nat.le_refl _) _) (by simp)
              · intro i hi
                have h5 : i = 0 ∨ i = 1 ∨ i = 2 := by simp at hi; omega
                rcases h5 with rfl | rfl | rfl <;> simp
          · go_wp2
            go_meet
            case rel =>
              have hn0 : nrv = 0 := hnr2 (by omega)
              subst hn0
              refine ⟨0, some ⟨W2.heap.size + 1, 0, none⟩, [1, x1, x2, 4, 5], 5, fun h => absurd h (by omega), fun _ => rfl, by kernel_rfl, ?_, .inr ⟨W2.heap.size + 1, 0, rfl, by simp, ?_⟩, (hbc.alloc hbz _).alloc (by simp; omega) _, by simp; omega⟩
              · exact (FrCells.new W2 (1 + 2 * (ar : Int)) 9 poll 0 0 (.slice (some ⟨W2.heap.size + 1, 0, none⟩) 5 5)).below ((Below.refl _ _).alloc (Nat.le_refl _) _) (by simp)
              · intro i hi
                have h5 : i = 0 ∨ i = 1 ∨ i = 2 ∨ i = 3 ∨ i = 4 := by simp at hi; omega
                rcases h5 with rfl | rfl | rfl | rfl | rfl <;> simp
        · have g2 : ¬ ((1 : Int) + (kr : Int) = 1) := by omega
          have g3 : ¬ ((1 : Int) + (kr : Int) = 9) := by omega
          go_wp2
          go_meet
          case rel => exact ⟨0, none, [], 0, fun h => absurd h hk0, fun _ => rfl, info_none m _ (by omega) (by omega), FrCells.new W2 _ _ _ _ _ _, .inl ⟨rfl, rfl⟩, hbc.alloc hbz _, by simp⟩
      case rest =>
        obtain ⟨nsv, q, il, c, hns1, hns2, hinf, hF, hsrc, hbx, hlx⟩ := hcut
        clear hbc hbz HP3 HP4
        have ok : NumOk m (1 + kr) nsv nrv := ⟨hm, by omega, by omega, fun h => hns1 (by omega), fun h => hns2 (by omega), fun h => hnr1 (by omega), fun h => hnr2 (by omega)⟩
        clear hns1 hns2 hnr1 hnr2
        have ha : isAddr (1 + 2 * (ar : Int)) = true := by
          have : ar = 0 ∨ ar = 1 := by omega
          rcases this with rfl | rfl <;> rfl
        have hm' : m ≤ 128 := by omega
        have hk9 : kr < 9 := by omega
        have hil : il.length ≤ 32 := by
          unfold infoF repN at hinf
          split at hinf
          · have := of_decide_eq_true hinf; omega
          · split at hinf
            · have := eq_of_beq hinf; split at this <;> omega
            · have := eq_of_beq hinf; omega
        have hkI : ((1 + kr : Nat) : Int) = 1 + (kr : Int) := by omega
        have hCc : Ctl wc := hC.below hbx hs
        have hzc := hbx.size
        have hW := write_ok m (1 + kr) nsv nrv (1 + 2 * (ar : Int)) poll q il c wc ok ha hinf hCc (by omega) hsrc
        have hrd := read_of poll il ok ha
        rw [hinf] at hrd
        simp only [Bool.true_eq_false, if_false] at hrd
        have hrd2 := read_of poll (il ++ [0]) ok ha
        have hmi : infoF m (1 + kr : Nat) ((il ++ [0]).length : Nat) = (decide (1 + kr = 1) && decide (il.length < 32)) := by
          have := more_info hinf
          rw [List.length_append]
          exact this
        rw [hmi] at hrd2
        clear hmi
        rw [hkI] at hW
        have hbl : (UInt8.ofNat (1 + 2 * (ar : Int)).toNat :: (ctlL m (1 + kr) nsv nrv poll ++ il)).length = 1 + cbN m (1 + kr) + il.length := by simp [ctlL_length]; omega
        have hcb : 1 ≤ cbN m (1 + kr) ∧ cbN m (1 + kr) ≤ 2 := by unfold cbN; split <;> omega
        have ebs : UInt8.ofNat (1 + 2 * (ar : Int)).toNat :: (ctlL m (1 + kr) nsv nrv poll ++ (il ++ [0])) = (UInt8.ofNat (1 + 2 * (ar : Int)).toNat :: (ctlL m (1 + kr) nsv nrv poll ++ il)) ++ [0] := by simp
        rw [ebs] at hrd2
        generalize UInt8.ofNat (1 + 2 * (ar : Int)).toNat :: (ctlL m (1 + kr) nsv nrv poll ++ il) = bs at hW hrd hrd2 hbl
        rw [← hbl] at hW
        have hbs : 2 ≤ bs.length ∧ bs.length ≤ 35 := by omega
        clear hbl hcb ebs
        have HW := hide hW
        have HRD := hide hrd
        have HRD2 := hide hrd2
        clear hW hrd hrd2
        have k0 := hF.c0
        have k1 := hF.c1
        have k2 := hF.c2
        have k3 := hF.c3
        have k4 := hF.c4
        have k5 := hF.c5
        go_wp2_with fail
        refine (unhide HW).mono ?_
        rintro e V1 ⟨v1, rfl, hown1, hbv1⟩
        clear HW k0 k1 k2 k3 k4 k5
        obtain ⟨g, cap, rfl, hseg1, hg1, hg2, hnc, hcm⟩ := row_all hown1 rfl (by omega)
        have hcm' : cap ≤ 9223372036854775807 := by unfold maxLen at hcm; omega
        have hbwv := hbx.trans (hbv1.mono hzc)
        have hz1 := hbv1.size
        have hRd := read_any m (some ⟨g, 0, none⟩) cap bs V1 (.inr ⟨g, 0, rfl, hg2, hseg1⟩) (hC.below hbwv hs) (by omega) (by omega) hnc hcm'
        rw [unhide HRD] at hRd
        simp only [hkI] at hRd
        have HRd := hide hRd
        have HO1 := hide hown1
        clear hRd HRD hown1 hseg1 hcm
        go_wp2_with fail
        refine (unhide HRd).mono ?_
        rintro e V2 ⟨q2, cp2, rfl, hown2, _, hbv2⟩
        clear HRd
        have hz2 := hbv2.size
        have hb2 : Below wc.heap.size wc V2 := hbv1.trans (hbv2.mono hz1)
        have hF2 := hF.below hb2 hlx
        have hA : ∀ o, Below V2.heap.size V2 (V2.alloc o) := fun o => (Below.refl _ V2).alloc (Nat.le_refl _) o
        have hF3 := fun o => hF2.below (hA o) (by omega)
        have k0 := fun o => (hF3 o).c0
        have k1 := fun o => (hF3 o).c1
        have k2 := fun o => (hF3 o).c2
        have k3 := fun o => (hF3 o).c3
        have k4 := fun o => (hF3 o).c4
        have k5 := fun o => (hF3 o).c5
        have cvf := fun o => (((hsrc.below hb2 (Nat.le_refl _)).below (hA o) (Nat.le_refl _)).conv c)
        have cvg := fun o => (((own_src hown2 rfl).below (hA o) (Nat.le_refl _)).conv cp2)
        have hne : ¬ W2.heap.size = V2.heap.size := by omega
        have HA := hide hA
        have HF := hide hF
        clear hF3 hF2 hA hown2 hF hsrc
        generalize (⟨il.toArray⟩ : ByteArray) = st at cvf cvg
        go_upto_if 144 with fail
        obtain ⟨V3, hV3⟩ : ∃ V3, V3 = V2.alloc (.cells #[.int .i64 (1 + 2 * (ar : Int)), .int .i64 (1 + (kr : Int)), .bool poll, .int .i64 (nsv : Int), .int .i64 (nrv : Int), .slice q2 il.length cp2] 24) := ⟨_, rfl⟩
        rw [← hV3]
        have hb3 : Below V2.heap.size V2 V3 := by rw [hV3]; exact unhide HA _
        have hz3 : V3.heap.size = V2.heap.size + 1 := by rw [hV3]; simp
        have hb13 : Below V1.heap.size V1 V3 := hbv2.trans (hb3.mono hz2)
        have HO3 := hide (ownsRow_below (unhide HO1) hb13)
        have HB3 := hide (hb2.trans (hb3.mono (by omega)) : Below wc.heap.size wc V3)
        clear hV3 HA k0 k1 k2 k3 k4 k5 cvf cvg hb13 hb3 HO1 hbv2 hb2
        obtain ⟨i0, hi0, hy0, hy1, hy2⟩ := info_parts infoByte
        have hz3' : wc.heap.size ≤ V3.heap.size := by omega
        have HZ3 := hide hz3
        clear hz3
        go_wp2_with (at_builtin; refine wpList_append_own _ rfl _ _ 22 rfl wc.heap.size 5 i0 _ 1 1 Tryd.underlying22 hi0 hy0 hy1 hy2 rfl (by decide) _ _ _ rfl ((unhide HO3).alloc _) ⟨V3.heap.size, 0, none⟩ 1 1 [.int .u8 0] rfl rfl ?y1 ?y2 ?y3 ?y4 ?y5 ?_)
        try case y1 =>
          intro j u hj
          match j, hj with
          | 0, hj => simp at hj; subst hj; simp [Addr.add]
        try case y2 => intro u hu; simp at hu; subst hu; rfl
        try case y3 => unfold maxLen; omega
        try case y4 => omega
        try case y5 => simp; omega
        intro v5 V5 hown5 hg5 _
        have hb5 : Below wc.heap.size wc V5 := ((unhide HB3).alloc (by omega) _).grown hg5 (by simp; omega) (fun k hk => by simp [Value.ownBlock] at hk; omega)
        have e5 : Lib.byteCells bs ++ [.int .u8 0] = Lib.byteCells (bs ++ [0]) := by simp [Lib.byteCells]
        rw [e5] at hown5
        have hl5 : bs.length + 1 = (bs ++ [0]).length := by simp
        obtain ⟨g5, cap5, rfl, hseg5, hg51, hg52, hnc5, hcm5⟩ := row_all hown5 hl5 (by omega)
        have hcm5' : cap5 ≤ 9223372036854775807 := by unfold maxLen at hcm5; omega
        have hbw5 := hbx.trans (hb5.mono hzc)
        have hRd5 := read_any m (some ⟨g5, 0, none⟩) cap5 (bs ++ [0]) V5 (.inr ⟨g5, 0, rfl, hg52, hseg5⟩) (hC.below hbw5 hs) (by omega) (by omega) (by omega) hcm5'
        have hec : (readL m (bs ++ [0])).1 = if kr = 0 ∧ il.length < 32 then 0 else 5 := by
          rw [unhide HRD2]
          by_cases h1 : kr = 0
          · by_cases h2 : il.length < 32
            · simp [h1, h2]
            · simp [h1, h2]
          · simp [h1]
        have hfin := (unhide HF).below hb5 hlx
        obtain ⟨ec, hecv⟩ : ∃ ec, (if kr = 0 ∧ il.length < 32 then 0 else 5) = ec := ⟨_, rfl⟩
        rw [hec, hecv, ← hl5] at hRd5
        generalize readL m (bs ++ [0]) = rr at hRd5
        generalize rr.2.info = ri at hRd5
        generalize rr.2.a = ra at hRd5
        generalize rr.2.k = rk at hRd5
        generalize rr.2.p = rp at hRd5
        generalize rr.2.ns = rns at hRd5
        generalize rr.2.nr = rnr at hRd5
        have HEC := hide hecv
        clear hecv hl5
        have HRd5 := hide hRd5
        have hz5 := hb5.size
        have HBW5 := hide hbw5
        clear hRd5 hec HRD2 hown5 hseg5 e5 hg5 HO3 HB3 hb5 hbw5
        go_wp2_with fail
        refine (unhide HRd5).mono ?_
        rintro e V6 ⟨q6, cp6, rfl, _, _, hbv6⟩
        clear HRd5
        have hF6 := hfin.below hbv6 (by omega)
        have k1 := hF6.c1
        have k5 := hF6.c5
        have HB6 := hide ((unhide HBW5).trans (hbv6.mono (by omega)))
        clear hF6 hfin HBW5 HF
        by_cases h1 : kr = 0
        · subst h1
          by_cases h2 : il.length < 32
          · obtain rfl : ec = 0 := by rw [← unhide HEC, if_pos ⟨rfl, h2⟩]
            have g1 : ((il.length : Int) == 32) = false := by simp; omega
            go_wp2
            go_ret
            exact ⟨rfl, unhide HB6⟩
          · obtain rfl : ec = 5 := by rw [← unhide HEC, if_neg (fun h => h2 h.2)]
            have e32 : il.length = 32 := by omega
            rw [e32] at k5
            go_wp2
            go_ret
            exact ⟨rfl, unhide HB6⟩
        · obtain rfl : ec = 5 := by rw [← unhide HEC, if_neg (fun h => h1 h.1)]
          have g1 : ((1 : Int) + (kr : Int) != 1) = true := by simp; omega
          have g2 : ¬ ((1 : Int) + (kr : Int) = 1) := by omega
          go_wp2
          go_ret
          exact ⟨rfl, unhide HB6⟩
end Go.Proofs.YtkalonhalhdlaaaDoor
