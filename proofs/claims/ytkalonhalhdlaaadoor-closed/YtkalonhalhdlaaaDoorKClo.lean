/-
  What one call of Closed does.
-/
import Derived.Test.YtkalonhalhdlaaaDoorKClo1
import Derived.Deep.Cut
import Derived.Deep.CutRange
import Derived.WalkSpells
namespace Go.Proofs.YtkalonhalhdlaaaDoor
open Go.RowKit

/-- Behind j rounds. -/
def ClInv (w : World) (lo2 b0 : Nat) (c0 : Cfg) (ob : Nat) (b : Nat → Nat) (c : Nat → Cfg) (j : Nat) (wr : World) : Prop :=
  Below w.heap.size w wr ∧ w.heap.size + 1 ≤ wr.heap.size ∧ (j = 0 → OpenCl (w.heap.size + 1) lo2 b0 c0 ob b c wr) ∧ (0 < j → ShutCl (w.heap.size + 1) b0 ob b c wr)

theorem infoErr : (Tryd.prog.info? 25).map (fun i => (i.zero, i.size, i.bytes)) = some (some (.int .i64 0), 1, 8) := by kernel_rfl
def eights (n : Nat) : List Value := List.replicate n (.int .i64 8)
theorem row_eights {V : World} {base n : Nat} {v : Value} (h : V.ownsRow base 25 1 v n (eights n)) (hn : 0 < n) : ∃ g cap, v = .slice (some ⟨g, 0, none⟩) n cap ∧ ∀ t, t < n → V.cell? ⟨g, t, none⟩ = some (.int .i64 8) := by
  rcases h.2 with ⟨_, e⟩ | ⟨g, cap, cur, e1, _, e3, _, _, _, e7⟩
  · omega
  · refine ⟨g, cap, e1, fun t ht => ?_⟩
    rw [Lib.cell_of_heap e3]
    have e8 := congrArg (fun l : List Value => l[t]?) e7
    simp only [eights, Nat.mul_one] at e8
    rw [List.getElem?_take_of_lt ht, List.getElem?_replicate_of_lt ht] at e8
    rw [Array.getElem?_toList] at e8
    exact e8
set_option maxHeartbeats 4000000 in
set_option maxRecDepth 100000 in
theorem closed_any (x : Raw) (hx : x.fits) (sx : ByteArray) (w : World) (hC : Ctl w) (hw : 0 < w.heap.size) :
    Calls Tryd.prog 5 #[x.val, .string sx] w fun e w' => e = .returned (.bool true) ∧ Below w.heap.size w w' := by
  simp only [Raw.val]
  obtain ⟨W0, hW0⟩ : ∃ W0, W0 = w.alloc (.cells #[.bool x.wide, .int .i64 x.win, .int .i64 x.tim, .int .i64 x.tri, .int .i64 x.room] 33) := ⟨_, rfl⟩
  have hb0 : Below w.heap.size w W0 := by rw [hW0]; exact (Below.refl _ w).alloc (Nat.le_refl _) _
  have hs0 : W0.heap.size = w.heap.size + 1 := by rw [hW0]; exact alloc1_s _ _
  have hx0 : W0.heap[w.heap.size]? = some (.cells #[.bool x.wide, .int .i64 x.win, .int .i64 x.tim, .int .i64 x.tri, .int .i64 x.room] 33 (0, 0)) := by rw [hW0]; exact alloc1_a _ _
  have k1 := begun_any x hx W0 (hC.below hb0 hw) (by omega)
  simp only [Raw.val] at k1
  rw [hs0] at k1
  have HC0 := hide (hC.below hb0 hw)
  have K1 := hide k1
  have HB0 := hide hb0
  have HT := hide (cfgs_two x)
  clear k1 hC hb0
  go_enter Tryd.func5, Tryd.ntmps5
  go_wp2_with fail
  rw [← hW0]
  refine (unhide K1).mono ?_
  rintro e w1 ⟨kb, b, rfl, hlk⟩
  clear K1 hW0
  have hbl1 : Bel (fen (w.heap.size + 1) 0) W0 w1 := by obtain ⟨_, _, _, _, _, h3⟩ := hlk; exact h3
  have hz1 := hbl1.size
  have hxb : w1.heap[w.heap.size]? = some (.cells #[.bool x.wide, .int .i64 x.win, .int .i64 x.tim, .int .i64 x.tri, .int .i64 x.room] 33 (0, 0)) := by
    rw [hbl1.below.block w.heap.size (by show w.heap.size < w.heap.size + 1; omega)]
    exact hx0
  have y0 : w1.cell? ⟨w.heap.size, 0, none⟩ = some (.bool x.wide) := by rw [Lib.cell_of_heap hxb]; rfl
  have y1 : w1.cell? ⟨w.heap.size, 1, none⟩ = some (.int .i64 x.win) := by rw [Lib.cell_of_heap hxb]; rfl
  have y2 : w1.cell? ⟨w.heap.size, 2, none⟩ = some (.int .i64 x.tim) := by rw [Lib.cell_of_heap hxb]; rfl
  have y3 : w1.cell? ⟨w.heap.size, 3, none⟩ = some (.int .i64 x.tri) := by rw [Lib.cell_of_heap hxb]; rfl
  have y4 : w1.cell? ⟨w.heap.size, 4, none⟩ = some (.int .i64 x.room) := by rw [Lib.cell_of_heap hxb]; rfl
  have hall1 : Below w.heap.size w w1 := (unhide HB0).trans (hbl1.below.mono (by show w.heap.size ≤ w.heap.size + 1; omega))
  have k2 := begun_any x hx w1 ((unhide HC0).below (hbl1.below.mono (by show w.heap.size ≤ w.heap.size + 1; omega)) hw) (by omega)
  simp only [Raw.val] at k2
  have K2 := hide k2
  have HL := hide hlk
  have HALL1 := hide hall1
  clear k2 hlk hall1 hbl1 hxb hx0 HC0 HB0
  go_wp2_with fail
  refine (unhide K2).mono ?_
  rintro e w2 ⟨ob, b2, rfl, hlk2⟩
  clear K2 y0 y1 y2 y3 y4
  have hbl2 : Bel (fen w1.heap.size 0) w1 w2 := by obtain ⟨_, _, _, _, _, h3⟩ := hlk2; exact h3
  have hz2 := hbl2.size
  have hop : OpenCl (w.heap.size + 1) w1.heap.size (b 0) (cfgs x 0) ob b2 (cfgs x) w2 := by
    obtain ⟨own, v, g, h1, h2, _⟩ := unhide HL
    refine ⟨⟨own, stUp, (h1.later hbl2.below).st 0 (by omega), fun y hy => ⟨(h2 y hy).1, ?_⟩⟩, ?_⟩
    · exact Nat.lt_of_not_le fun hle => hy ((h1.st 0 (by omega)).new0 y hle)
    · exact Lk.at.rebase (k := lkB) hlk2
  have cS : w2.cell? ⟨kb, 0, none⟩ = some (.pointer (some ⟨b 0, 0, none⟩)) := by
    obtain ⟨own, v, g, h1, _, _⟩ := unhide HL
    exact (h1.later hbl2.below).cell 0 rfl
  have HI : Hid (ClInv w w1.heap.size (b 0) (cfgs x 0) ob b2 (cfgs x) 0 w2) := hide ⟨(unhide HALL1).trans (hbl2.below.mono (by show w.heap.size ≤ w1.heap.size; omega)), by omega, fun _ => hop, fun h => by omega⟩
  clear hop hbl2 hlk2 HL HALL1
  go_wp2
  clear cS
  go_loopg [8, 9] 2 (fun g n i wr => ∃ j : Nat, j + g = 2 ∧ n = .int .i64 j ∧ i = .int .i64 j ∧ ClInv w w1.heap.size (b 0) (cfgs x 0) ob b2 (cfgs x) j wr)
  case atStart => exact ⟨0, rfl, rfl, rfl, unhide HI⟩
  case round =>
    obtain ⟨j, hjk, rfl, rfl, hbw, hsw, hj0, hj1⟩ := hrel
    clear HI
    by_cases hj : j < 2
    · have hji : (j : Int) < 2 := by omega
      obtain ⟨ans, hans⟩ : ∃ ans : Int, (j = 0 → ans = 0) ∧ (0 < j → ans = 8) := ⟨if j = 0 then 0 else 8, fun e => by rw [if_pos e], fun e => by rw [if_neg (by omega)]⟩
      have kcl : Calls Tryd.prog 16 #[.pointer (some ⟨b 0, 0, none⟩)] wr fun e w' => e = .returned (.int .i64 ans) ∧ ShutCl (w.heap.size + 1) (b 0) ob b2 (cfgs x) w' ∧ Below w.heap.size w w' ∧ w.heap.size + 1 ≤ w'.heap.size := by
        by_cases e : j = 0
        · rw [hans.1 e]
          refine ((hj0 e).close (by omega) (by omega)).mono ?_
          rintro e w' ⟨rfl, h1, h2⟩
          have := h2.size
          exact ⟨rfl, h1, hbw.trans (h2.mono (by omega)), by omega⟩
        · rw [hans.2 (by omega)]
          have hs := hj1 (by omega)
          refine (close_done hs.1).mono ?_
          rintro e w' ⟨rfl, h1⟩
          have := h1.size
          exact ⟨rfl, hs.later hsw h1, hbw.trans (h1.mono (by omega)), by omega⟩
      have KCL := hide kcl
      clear kcl hj0 hj1 hbw hsw
      go_upto_if 45 with fail
      go_cut [10] from 40 to 122 (fun s10 wx => s10 = .int .i64 ans ∧ wx = wr)
      case first =>
        by_cases e : j = 0
        · have ei : (j : Int) = 0 := by omega
          have ha := hans.1 e
          clear hans
          subst ha
          subst e
          go_wp2
          go_meet
          case rel => exact ⟨rfl, rfl⟩
        · have ei : ((j : Int) == 0) = false := by simp; omega
          have ha := hans.2 (by omega)
          clear hans
          subst ha
          go_wp2
          go_meet
          case rel => exact ⟨rfl, rfl⟩
      case rest =>
        obtain ⟨rfl, rfl⟩ := hcut
        clear hans
        go_wp2_with fail
        refine (unhide KCL).mono ?_
        rintro e wc ⟨rfl, hsc, hbc, hwc⟩
        clear KCL
        have HS : Hid (∀ V, Below wc.heap.size wc V → Shut V (b 0)) := hide (fun V hV => hsc.1.later hV)
        have HSC := hide hsc
        have HBC := hide hbc
        have hzc := hbc.size
        clear hsc hbc
        go_wp2_with fail
        refine (connect_done (unhide HS _ (Below.refl _ _))).mono ?_
        rintro e u1 ⟨rfl, c1⟩
        have s1 := c1.size
        go_wp2_with fail
        refine (leave_done (unhide HS _ c1)).mono ?_
        rintro e u2 ⟨rfl, c2'⟩
        have c2 := c1.trans (c2'.mono s1)
        have s2 := c2.size
        clear c1 c2' s1
        have hcv := conv_bytes u2 sx
        go_wp2_with fail
        have c3 := c2.trans ((bytesWorld_below u2 sx).mono s2)
        have s3 := c3.size
        refine (send_done (unhide HS _ c3) _ _ _).mono ?_
        rintro e u4 ⟨rfl, c4'⟩
        have c4 := c3.trans (c4'.mono s3)
        have s4 := c4.size
        clear c2 c3 c4' s2 s3 hcv
        go_wp2_with fail
        refine (busy_done (unhide HS _ c4) true).mono ?_
        rintro e u5 ⟨rfl, c5'⟩
        have c5 := c4.trans (c5'.mono s4)
        have s5 := c5.size
        clear c4 c5' s4
        have hcv := conv_bytes u5 sx
        go_wp2_with fail
        have c6 := c5.trans ((bytesWorld_below u5 sx).mono s5)
        have s6 := c6.size
        refine (hear_done (unhide HS _ c6) _ _ _).mono ?_
        rintro e u7 ⟨rfl, c7'⟩
        have c7 := c6.trans (c7'.mono s6)
        have s7 := c7.size
        clear c5 c6 c7' s5 s6 hcv
        go_wp2_with fail
        refine (tick_done (unhide HS _ c7)).mono ?_
        rintro e u8 ⟨rfl, c8'⟩
        have c8 := c7.trans (c8'.mono s7)
        have s8 := c8.size
        clear c7 c8' s7
        go_wp2_with fail
        obtain ⟨U8, hU8⟩ : ∃ U8, U8 = u8.alloc (.cells #[.int .i64 8, .int .i64 8, .int .i64 8, .int .i64 8, .int .i64 8, .int .i64 8] 25) := ⟨_, rfl⟩
        rw [← hU8]
        have c9 : Below wc.heap.size wc U8 := by rw [hU8]; exact c8.alloc s8 _
        have z8 : U8.heap.size = u8.heap.size + 1 := by rw [hU8]; exact alloc1_s _ _
        have hrow : U8.heap[u8.heap.size]? = some (.cells #[.int .i64 8, .int .i64 8, .int .i64 8, .int .i64 8, .int .i64 8, .int .i64 8] 25 (0, 0)) := by rw [hU8]; exact alloc1_a _ _
        clear hU8 c8
        refine (taken_done (unhide HS _ c9)).mono ?_
        rintro e u10 ⟨rfl, d1⟩
        have s10 := d1.size
        go_wp2_with fail
        refine (out_done (unhide HS _ (c9.trans (d1.mono (by omega))))).mono ?_
        rintro e u11 ⟨rfl, d2'⟩
        have d2 := d1.trans (d2'.mono s10)
        have s11 := d2.size
        clear d1 d2' s10
        go_wp2_with fail
        refine (events_done (unhide HS _ (c9.trans (d2.mono (by omega))))).mono ?_
        rintro e u12 ⟨rfl, d3'⟩
        have d3 := d2.trans (d3'.mono s11)
        have s12 := d3.size
        clear d2 d3' s11
        have kvw := view_done (unhide HS _ (c9.trans (d3.mono (by omega))))
        unfold viewZ at kvw
        go_wp2_with fail
        refine kvw.mono ?_
        rintro e u13 ⟨rfl, d4'⟩
        have d4 := d3.trans (d4'.mono s12)
        have s13 := d4.size
        clear d3 d4' s12 kvw
        go_upto_region 21 with fail
        obtain ⟨V13, hV13⟩ : ∃ V13, V13 = u13.alloc (.cells #[.int .i64 0, .int .i64 0, .int .i64 0, .int .i64 0, .int .i64 0, .int .i64 0, .bool false, .bool false, .bool false, .int .i64 0, .int .i64 0] 54) := ⟨_, rfl⟩
        rw [← hV13]
        have d5 : Below U8.heap.size U8 V13 := by rw [hV13]; exact d4.alloc s13 _
        have z13 : V13.heap.size = u13.heap.size + 1 := by rw [hV13]; exact alloc1_s _ _
        have hvb : V13.heap[u13.heap.size]? = some (.cells #[.int .i64 0, .int .i64 0, .int .i64 0, .int .i64 0, .int .i64 0, .int .i64 0, .bool false, .bool false, .bool false, .int .i64 0, .int .i64 0] 54 (0, 0)) := by rw [hV13]; exact alloc1_a _ _
        have c13 : Below wc.heap.size wc V13 := c9.trans (d5.mono (by omega))
        have hown : V13.ownsRow u8.heap.size 25 1 (.slice (some ⟨u8.heap.size, 0, none⟩) 6 6) 6 (eights 6) := ⟨rfl, .inr ⟨u8.heap.size, 6, _, rfl, Nat.le_refl _, by rw [(show Keeps (fun _ => False) U8 V13 from Keeps.of d5).block u8.heap.size (by omega) id]; exact hrow, Nat.le_refl _, by unfold maxLen; omega, rfl, rfl⟩⟩
        clear hV13 d4 d5 c9 hrow
        obtain ⟨i0, hi0, hy0, hy1, hy2⟩ := info_parts infoErr
        have hle8 : u8.heap.size ≤ V13.heap.size := by omega
        have hob : (Value.slice (some ⟨u8.heap.size, 0, none⟩) 6 6).ownBlock = some u8.heap.size := rfl
        generalize Value.slice (some ⟨u8.heap.size, 0, none⟩) 6 6 = v12 at *
        have HOWN := hide hown
        have HOB := hide hob
        have HZ13 := hide z13
        have HZ8 := hide z8
        clear hown hob z13 z8
        go_wp2_with (at_builtin; refine wpList_append_own _ rfl _ _ 60 rfl u8.heap.size 25 i0 _ 1 8 Tryd.underlying60 hi0 hy0 hy1 hy2 rfl (by decide) _ _ _ rfl ((unhide HOWN).alloc _) ⟨V13.heap.size, 0, none⟩ 4 4 (eights 4) rfl rfl ?y1 ?y2 ?y3 ?y4 ?y5 ?_)
        try case y1 =>
          intro t u ht
          match t, ht with
          | 0, ht => simp [eights] at ht; subst ht; simp [Addr.add]
          | 1, ht => simp [eights] at ht; subst ht; simp [Addr.add]
          | 2, ht => simp [eights] at ht; subst ht; simp [Addr.add]
          | 3, ht => simp [eights] at ht; subst ht; simp [Addr.add]
          | t + 4, ht => simp [eights] at ht
        try case y2 => intro u hu; simp [eights] at hu; subst hu; rfl
        try case y3 => unfold maxLen; omega
        try case y4 => omega
        try case y5 => simp; omega
        intro v5 V5 hown5 hg5 hnn
        clear hnn
        have z13 := unhide HZ13
        have z8 := unhide HZ8
        have c14 : Below wc.heap.size wc V5 := (c13.alloc c13.size _).grown hg5 (by simp; omega) (fun k hk => by rw [unhide HOB] at hk; simp at hk; omega)
        have hvb5 : V5.heap[u13.heap.size]? = some (.cells #[.int .i64 0, .int .i64 0, .int .i64 0, .int .i64 0, .int .i64 0, .int .i64 0, .bool false, .bool false, .bool false, .int .i64 0, .int .i64 0] 54 (0, 0)) := by
          have k1 := Keeps.grown hg5
          rw [k1.block u13.heap.size (by simp; omega) (fun e => by rw [unhide HOB] at e; simp at e; omega), (show Keeps (fun _ => False) V13 _ from (Keeps.refl _ V13).alloc _).block u13.heap.size (by omega) id]
          exact hvb
        have e10 : eights 6 ++ eights 4 = eights 10 := rfl
        rw [e10] at hown5
        obtain ⟨g5, cap5, rfl, hcell⟩ := row_eights hown5 (by omega)
        have hsz5 := c14.size
        have HR : Hid (ClInv w w1.heap.size (b 0) (cfgs x 0) ob b2 (cfgs x) (j + 1) V5) := hide ⟨(unhide HBC).trans (c14.mono hzc), by omega, fun h => by omega, fun _ => (unhide HSC).later (by omega) c14⟩
        have q0 : V5.cell? ⟨u13.heap.size, 0, none⟩ = some (.int .i64 0) := by rw [Lib.cell_of_heap hvb5]; rfl
        have q1 : V5.cell? ⟨u13.heap.size, 1, none⟩ = some (.int .i64 0) := by rw [Lib.cell_of_heap hvb5]; rfl
        have q2 : V5.cell? ⟨u13.heap.size, 2, none⟩ = some (.int .i64 0) := by rw [Lib.cell_of_heap hvb5]; rfl
        have q3 : V5.cell? ⟨u13.heap.size, 3, none⟩ = some (.int .i64 0) := by rw [Lib.cell_of_heap hvb5]; rfl
        have q4 : V5.cell? ⟨u13.heap.size, 4, none⟩ = some (.int .i64 0) := by rw [Lib.cell_of_heap hvb5]; rfl
        have q5 : V5.cell? ⟨u13.heap.size, 5, none⟩ = some (.int .i64 0) := by rw [Lib.cell_of_heap hvb5]; rfl
        have q6 : V5.cell? ⟨u13.heap.size, 6, none⟩ = some (.bool false) := by rw [Lib.cell_of_heap hvb5]; rfl
        have q7 : V5.cell? ⟨u13.heap.size, 7, none⟩ = some (.bool false) := by rw [Lib.cell_of_heap hvb5]; rfl
        have q8 : V5.cell? ⟨u13.heap.size, 8, none⟩ = some (.bool false) := by rw [Lib.cell_of_heap hvb5]; rfl
        have q9 : V5.cell? ⟨u13.heap.size, 9, none⟩ = some (.int .i64 0) := by rw [Lib.cell_of_heap hvb5]; rfl
        have q10 : V5.cell? ⟨u13.heap.size, 10, none⟩ = some (.int .i64 0) := by rw [Lib.cell_of_heap hvb5]; rfl
        clear hown5 hg5 hvb hvb5 c13 c14 HOWN HOB HZ13 HZ8 HSC HBC hi0 hy0 hy1 hy2 HS e10
        have HCELL := hide hcell
        clear hcell
        go_wp2
        go_loopg [21] 10 (fun g i wx => ∃ t : Nat, t + g = 10 ∧ i = .int .i64 t ∧ wx = V5)
        case atStart => exact ⟨0, rfl, rfl, rfl⟩
        case round =>
          obtain ⟨t, htk, rfl, rfl⟩ := hrel
          by_cases ht : t < 10
          · have hti : (t : Int) < 10 := by omega
            have hc := unhide HCELL t ht
            go_wp2
            go_roundg (gk - 1)
            case measure => omega
            case rel => exact ⟨t + 1, by omega, by go_num, rfl⟩
          · have hti : ¬ (t : Int) < 10 := by omega
            have n46 := fun W => run_neq_slice_nil_any (P := Tryd.prog) W 46 22 none 0 0 0 0 Tryd.underlying46
            have n63 := fun W => run_neq_slice_nil_any (P := Tryd.prog) W 63 3 none 0 0 0 0 Tryd.underlying63
            go_wp2
            go_roundg (1 - j)
            case measure => omega
            case rel => exact ⟨j + 1, by omega, by go_num, by go_num, unhide HR⟩
    · have hji : ¬ ((j : Int) < 2) := by omega
      have ej : j = 2 := by omega
      subst ej
      have hat := (hj1 (by omega)).2
      have htop : (fen0 (w.heap.size + 1)).top ≤ wr.heap.size := by unfold Fen.top; show max (w.heap.size + 1) 0 ≤ _; omega
      obtain ⟨p1, k3, p2, p3⟩ := closed_plain (unhide HT)
      have hfm := Lk.fine_move (c := cfgs x) (kd := 0) (i := 0) (on := false) lkB_fine
      have kg := gives_at hat htop 0 (by omega) (by show (0 : Nat) ≤ 1000000; omega) (by show 0 + 18 ≤ 2199023255552; omega)
      rw [p1] at kg
      have klk : ∀ W, (lkB.give (cfgs x) 0).at (fen0 (w.heap.size + 1)) wr ob b2 (cfgs x) W → Calls Tryd.prog 26 #[.pointer (some ⟨ob, 0, none⟩)] W fun e w' => e = .returned (.bool true) ∧ (lkB.give (cfgs x) 0).look.at (fen0 (w.heap.size + 1)) wr ob b2 (cfgs x) w' := fun W hW => looks_at hW htop (fun i hi => Nat.le_trans (hfm.2.1 i hi) (by omega))
      have kfl : ∀ W, (lkB.give (cfgs x) 0).look.at (fen0 (w.heap.size + 1)) wr ob b2 (cfgs x) W → Calls Tryd.prog 27 #[.pointer (some ⟨ob, 0, none⟩)] W fun e w' => e = .returned (.bool true) ∧ k3.at (fen0 (w.heap.size + 1)) wr ob b2 (cfgs x) w' := by
        intro W hW
        have q := flows_link hW htop hfm.1 Lk.look_still (by omega)
        rw [p2] at q
        exact q
      have hend : ∀ W, k3.at (fen0 (w.heap.size + 1)) wr ob b2 (cfgs x) W → W.cell? ⟨ob, 6, none⟩ = some (.int .i64 1) ∧ Below w.heap.size w W := by
        intro W hW
        refine ⟨?_, ?_⟩
        · have q : W.cell? ⟨ob, 6, none⟩ = some (.int .i64 (k3.t 0)) := hW.cellT (show 0 < 2 by omega)
          rw [p3] at q
          exact q
        · obtain ⟨_, _, _, _, _, h3⟩ := hW
          exact hbw.trans (h3.below.mono (by show w.heap.size ≤ w.heap.size + 1; omega))
      have KG := hide kg
      have KLK := hide klk
      have KFL := hide kfl
      have HEND := hide hend
      clear kg klk kfl hend hfm p1 p2 p3 hat hj0 hj1 hbw HT
      go_wp2_with fail
      refine (unhide KG).mono ?_
      rintro e v1 ⟨rfl, g1⟩
      clear KG
      have K2 := hide (unhide KLK v1 g1)
      clear KLK g1
      go_wp2_with fail
      refine (unhide K2).mono ?_
      rintro e v2 ⟨rfl, g2⟩
      clear K2
      have K3 := hide (unhide KFL v2 g2)
      clear KFL g2
      go_wp2_with fail
      refine (unhide K3).mono ?_
      rintro e v3 ⟨rfl, g3⟩
      clear K3
      obtain ⟨cT, hfin⟩ := unhide HEND v3 g3
      have HFIN := hide hfin
      clear HEND g3 hfin
      go_wp2
      go_ret
      exact ⟨rfl, unhide HFIN⟩
end Go.Proofs.YtkalonhalhdlaaaDoor
