/-
  What one call of Within does.
-/
import Derived.Test.YtkalonhalhdlaaaDoorKWith1
import Derived.Deep.Cut
import Derived.Deep.CutRange
namespace Go.Proofs.YtkalonhalhdlaaaDoor
open Go.RowKit

def lk0 : Lk := ⟨fun _ => stUp, fun _ => [], fun _ => [], fun _ => 0, false⟩
theorem lk0_fine : lk0.fine 0 := ⟨fun i _ => by simp [lk0, stUp, St.fresh], fun i _ m hm => by simp [lk0, stUp, St.fresh] at hm, fun i _ => by simp [lk0, stUp, St.fresh], fun i _ m hm => by simp [lk0] at hm, fun i _ => by simp [lk0], fun i _ => by simp [lk0], fun i _ => by simp [lk0]⟩
/-- Behind r moves. -/
def WithInv (B : Fen) (w : World) (kb : Nat) (b : Nat → Nat) (c : Nat → Cfg) (r : Nat) (wr : World) : Prop := ∃ k : Lk, k.at B w kb b c wr ∧ k.fine r

set_option maxHeartbeats 8000000 in
set_option maxRecDepth 100000 in
set_option pp.deepTerms true in
set_option pp.maxSteps 300000 in
theorem within_any (x : Raw) (hx : x.fits) (pm : Option Addr) (nm cpm : Nat) (pn : Option Addr) (nn cpn : Nat) (w : World) (hC : Ctl w) (hw : 0 < w.heap.size) (hm : MovesIn w w.heap.size pm nm) (hn : TextsAt w w.heap.size pn nn) (_hnm : nm ≤ maxLen) (_hnn : nn ≤ maxLen) :
    Calls Tryd.prog 4 #[x.val, .slice pm nm cpm, .slice pn nn cpn] w fun e w' => e = .returned (.bool true) ∧ Below w.heap.size w w' := by
  have hm63 : maxLen = 9223372036854775807 := by unfold maxLen; omega
  rw [hm63] at _hnm _hnn
  clear hm63
  simp only [Raw.val]
  have hb0 : Below w.heap.size w (w.alloc (.cells #[.bool x.wide, .int .i64 x.win, .int .i64 x.tim, .int .i64 x.tri, .int .i64 x.room] 33)) := (Below.refl _ w).alloc (Nat.le_refl _) _
  have k1 := begun_any x hx (w.alloc (.cells #[.bool x.wide, .int .i64 x.win, .int .i64 x.tim, .int .i64 x.tri, .int .i64 x.room] 33)) (hC.below hb0 hw) (by rw [alloc1_s]; omega)
  simp only [Raw.val] at k1
  have K1 := hide k1
  have HC := hide hC
  have HM := hide hm
  have HN := hide hn
  have HB0 := hide hb0
  clear k1 hC hm hn hb0
  go_enter Tryd.func4, Tryd.ntmps4
  go_wp2_with fail
  refine (unhide K1).mono ?_
  rintro e w1 ⟨kb, b, rfl, hlk⟩
  clear K1
  have hb1 : Below (w.heap.size + 1) (w.alloc (.cells #[.bool x.wide, .int .i64 x.win, .int .i64 x.tim, .int .i64 x.tri, .int .i64 x.room] 33)) w1 := by
    obtain ⟨_, _, _, _, _, h3⟩ := hlk
    have := h3.below
    rw [alloc1_s] at this
    exact this
  have hxb : w1.heap[w.heap.size]? = some (.cells #[.bool x.wide, .int .i64 x.win, .int .i64 x.tim, .int .i64 x.tri, .int .i64 x.room] 33 (0, 0)) := by
    rw [hb1.block w.heap.size (by omega)]
    exact alloc1_a w _
  have y0 : w1.cell? ⟨w.heap.size, 0, none⟩ = some (.bool x.wide) := by rw [Lib.cell_of_heap hxb]; rfl
  have y1 : w1.cell? ⟨w.heap.size, 1, none⟩ = some (.int .i64 x.win) := by rw [Lib.cell_of_heap hxb]; rfl
  have y2 : w1.cell? ⟨w.heap.size, 2, none⟩ = some (.int .i64 x.tim) := by rw [Lib.cell_of_heap hxb]; rfl
  have y3 : w1.cell? ⟨w.heap.size, 3, none⟩ = some (.int .i64 x.tri) := by rw [Lib.cell_of_heap hxb]; rfl
  have y4 : w1.cell? ⟨w.heap.size, 4, none⟩ = some (.int .i64 x.room) := by rw [Lib.cell_of_heap hxb]; rfl
  have k2 := fun V => config_any x hx 1 V
  simp only [Raw.val, show ((1 : Nat) : Int) = 1 from rfl] at k2
  have HL := hide hlk
  have HB1 := hide hb1
  clear hlk hb1 hxb
  go_wp2_with fail
  refine (k2 _).mono ?_
  rintro e w2 ⟨rfl, hb2⟩
  clear k2 y0 y1 y2 y3 y4
  -- the link, the configuration's block fenced
  have hs1 : w.heap.size + 1 ≤ w1.heap.size := by have := (unhide HB1).size; rw [alloc1_s] at this; exact this
  have hs2 := hb2.size
  obtain ⟨W3, hW3⟩ : ∃ W3, W3 = w2.alloc (.cells #[.int .i64 (x.cfg 1).m, .int .i64 (x.cfg 1).win, .int .i64 (x.cfg 1).tim, .int .i64 (x.cfg 1).tri, .int .i64 (x.cfg 1).room, .int .i64 (x.cfg 1).addr] 39) := ⟨_, rfl⟩
  have hb3 : Below w1.heap.size w1 W3 := by rw [hW3]; exact hb2.alloc hs2 _
  have hs3 : W3.heap.size = w2.heap.size + 1 := by rw [hW3]; exact alloc1_s _ _
  have hcb : W3.heap[w2.heap.size]? = some (.cells #[.int .i64 (x.cfg 1).m, .int .i64 (x.cfg 1).win, .int .i64 (x.cfg 1).tim, .int .i64 (x.cfg 1).tri, .int .i64 (x.cfg 1).room, .int .i64 (x.cfg 1).addr] 39 (0, 0)) := by rw [hW3]; exact alloc1_a _ _
  have hfen := (unhide HL).fence hb3 w2.heap.size hs2
  rw [alloc1_s] at hfen
  have hall : Below (w.heap.size) w W3 := ((unhide HB0).trans ((unhide HB1).mono (by omega))).trans (hb3.mono (by omega))
  have hmv : MovesIn W3 (w.heap.size + 1) pm nm := ((unhide HM).below hall).mono (by omega)
  have htx : TextsAt W3 (w.heap.size + 1) pn nn := ((unhide HN).below hall).mono (by omega)
  have HI : Hid (WithInv ⟨w.heap.size + 1, w2.heap.size⟩ W3 kb b (cfgs x) 0 W3) := hide ⟨lk0, hfen, lk0_fine⟩
  have HALL := hide hall
  have HMV := hide hmv
  have HTX := hide htx
  have HCB := hide hcb
  have htop : (⟨w.heap.size + 1, w2.heap.size⟩ : Fen).top ≤ W3.heap.size := by unfold Fen.top; show max (w.heap.size + 1) (w2.heap.size + 1) ≤ _; omega
  clear hb3 hfen hall hmv htx hcb HM HN HB0 HB1 HL HC
  go_wp2
  rw [← hW3]
  clear hW3
  go_loopg [9] 200 (fun k i wr => ∃ r : Nat, r + k = 200 ∧ i = .int .i64 r ∧ WithInv ⟨w.heap.size + 1, w2.heap.size⟩ W3 kb b (cfgs x) r wr)
  case atStart => exact ⟨0, rfl, rfl, unhide HI⟩
  case round =>
    obtain ⟨r, hrk, rfl, k, hk, hf⟩ := hrel
    clear HI
    have hbel : Bel ⟨w.heap.size + 1, w2.heap.size⟩ W3 wr := by obtain ⟨_, _, _, _, _, h3⟩ := hk; exact h3
    have HEND : Hid (Below w.heap.size w wr) := hide ((unhide HALL).trans (hbel.below.mono (by show w.heap.size ≤ w.heap.size + 1; omega)))
    by_cases h1 : r < nm
    · by_cases h2 : r < 200
      · clear HEND
        obtain ⟨bm, om, mx, my, mz, rfl, hbm, v1, v2, v3, g1, g2, g3⟩ := (unhide HMV) r h1
        have m1 : wr.cell? ⟨bm, om + r * 3, none⟩ = some (.int .i64 mx) := by rw [hbel.below.cell (p := ⟨bm, om + r * 3, none⟩) hbm]; exact v1
        have m2 : wr.cell? ⟨bm, om + r * 3 + 1, none⟩ = some (.int .i64 my) := by rw [hbel.below.cell (p := ⟨bm, om + r * 3 + 1, none⟩) hbm]; exact v2
        have m3 : wr.cell? ⟨bm, om + r * 3 + 2, none⟩ = some (.int .i64 mz) := by rw [hbel.below.cell (p := ⟨bm, om + r * 3 + 2, none⟩) hbm]; exact v3
        have V3 := hide v3
        clear v1 v2 v3
        have hfm := Lk.fine_move (c := cfgs x) (kd := pickN mx 11) (i := pickN my 2) (on := pickN mz 2 == 1) hf
        have ka := acts_link hk htop (Lk.small_of hf (by omega)) mx my mz g1 g2 g3 (fun j hj => by have := hfm.2.1 j hj; omega)
        have h1i : (r : Int) < (nm : Int) := by omega
        have h2i : (r : Int) < 200 := by omega
        have KA := hide ka
        have HFM := hide hfm
        clear ka hfm hk hf hbel
        go_wp2_with fail
        refine (unhide KA).mono ?_
        rintro e w4 ⟨rfl, hk4⟩
        generalize (k.move (cfgs x) (pickN mx 11) (pickN my 2) (pickN mz 2 == 1)).look = k4 at *
        have hf4 := (unhide HFM).1
        have ho4 := (unhide HFM).2.2
        have hbel4 : Bel ⟨w.heap.size + 1, w2.heap.size⟩ W3 w4 := by obtain ⟨_, _, _, _, _, h3⟩ := hk4; exact h3
        clear KA HFM m1 m2 m3
        go_upto_if 38 with fail
        go_cut [] from 19 to 129 (fun wx => ∃ k5 : Lk, k5.at ⟨w.heap.size + 1, w2.heap.size⟩ W3 kb b (cfgs x) wx ∧ k5.fine (r + 1))
        case first =>
          by_cases h3 : r < nn
          · obtain ⟨bn, on2, sx, rfl, hbn, t1, hsz⟩ := ((unhide HTX).below hbel4.below) r h3
            have h3i : (r : Int) < (nn : Int) := by omega
            have hB4 : (⟨w.heap.size + 1, w2.heap.size⟩ : Fen).top ≤ w4.heap.size := Nat.le_trans htop hbel4.size
            have m3 : w4.cell? ⟨bm, om + r * 3 + 2, none⟩ = some (.int .i64 mz) := by rw [hbel4.below.cell (p := ⟨bm, om + r * 3 + 2, none⟩) hbm]; exact unhide V3
            have hpk := fun V => pick_val mz 2 V g3 (by omega) (by omega)
            have hpl := pickN_lt mz 2 (by omega)
            generalize pickN mz 2 = i2 at *
            have hi2 : i2 < 2 := by omega
            have hci : i2 = 0 ∨ i2 = 1 := by omega
            have cK : w4.cell? ⟨kb, i2, none⟩ = some (.pointer (some ⟨b i2, 0, none⟩)) := by
              obtain ⟨_, _, _, hK, _, _⟩ := hk4
              exact hK.cell i2 (by rcases hci with rfl | rfl <;> rfl)
            have hcv2 := conv_bytes w4.drew sx
            rw [show w4.drew.heap.size = w4.heap.size from rfl] at hcv2
            have hlk : kb < w4.heap.size := by
              obtain ⟨_, _, _, hK, _, _⟩ := hk4
              exact hK.lt
            have hl4 : w.heap.size + 1 ≤ w4.heap.size := Nat.le_trans (Nat.le_trans hs1 hs2) (Nat.le_trans (by omega) hbel4.size)
            have hkp : ∀ V, Below w4.heap.size w4 V → (Lib.bytesWorld V 5 sx).cell? ⟨bm, om + r * 3 + 2, none⟩ = some (.int .i64 mz) ∧ (Lib.bytesWorld V 5 sx).cell? ⟨kb, i2, none⟩ = some (.pointer (some ⟨b i2, 0, none⟩)) ∧ (Lib.bytesWorld V 5 sx).cell? ⟨bn, on2 + r, none⟩ = some (.string sx) := by
              intro V hV
              have hb := hV.trans ((bytesWorld_below V sx).mono hV.size)
              exact ⟨by rw [hb.cell (p := ⟨bm, om + r * 3 + 2, none⟩) (Nat.lt_of_lt_of_le hbm hl4)]; exact m3, by rw [hb.cell (p := ⟨kb, i2, none⟩) hlk]; exact cK, by rw [hb.cell (p := ⟨bn, on2 + r, none⟩) (Nat.lt_of_lt_of_le hbn hl4)]; exact t1⟩
            obtain ⟨x1, x2, x3⟩ := hkp w4.drew ((Below.refl _ w4).drew)
            clear hkp
            have kn := hk4.noised hB4 hi2 sx hsz (ho4 i2 hi2).1 (ho4 i2 hi2).2 w4.drew ((Below.refl _ w4).drew)
            rw [show w4.drew.heap.size = w4.heap.size from rfl] at kn
            have KN := hide kn
            clear kn
            have HF4 := hide (Lk.fine_noise (c := cfgs x) (i := i2) hf4 ho4 sx.data.toList)
            clear hk4 hf4 ho4 hbel4 hB4 hsz hbn
            go_wp2_with fail
            go_region_with (first | (go_at_call 9; refine (hpk _).mono ?_; rintro e w' ⟨rfl, rfl⟩) | (go_at_call 14; refine (unhide KN).mono ?_; rintro e w5 ⟨rfl, hk5⟩))
            all_goals
              go_wp2_with fail
              go_meet
              case rel => exact ⟨_, hk5, unhide HF4⟩
          · have h3i : ¬ ((r : Int) < (nn : Int)) := by omega
            go_wp2
            go_meet
            case rel => exact ⟨k4, hk4, hf4⟩
        case rest =>
          obtain ⟨k5, hk5, hf5⟩ := hcut
          clear hk4 hf4 ho4 hbel4
          have HI5 := hide hk5
          have HF5 := hide hf5
          clear hk5 hf5
          go_wp2
          go_loopg [10] 2 (fun kk i wr => ∃ j : Nat, j + kk = 2 ∧ i = .int .i64 j ∧ k5.at ⟨w.heap.size + 1, w2.heap.size⟩ W3 kb b (cfgs x) wr)
          case atStart => exact ⟨0, rfl, rfl, unhide HI5⟩
          case round =>
            obtain ⟨j, hjk, rfl, hk6⟩ := hrel
            clear HI5
            by_cases hj : j < 2
            · have hj2 : (j : Int) < 2 := by omega
              have hcj : j = 0 ∨ j = 1 := by omega
              have hbel6 : Bel ⟨w.heap.size + 1, w2.heap.size⟩ W3 wr := by obtain ⟨_, _, _, _, _, h3⟩ := hk6; exact h3
              have hB6 : (⟨w.heap.size + 1, w2.heap.size⟩ : Fen).top ≤ wr.heap.size := Nat.le_trans htop hbel6.size
              have cS : wr.cell? ⟨kb, j, none⟩ = some (.pointer (some ⟨b j, 0, none⟩)) := by
                obtain ⟨_, _, _, hK, _, _⟩ := hk6
                exact hK.cell j (by rcases hcj with rfl | rfl <;> rfl)
              have hok : (k5.s j).ok (cfgs x j) := by
                obtain ⟨_, _, _, hK, _, _⟩ := hk6
                exact hK.sok j hj
              have kv : Calls Tryd.prog 15 #[.pointer (some ⟨b j, 0, none⟩)] wr fun e w' => e = .returned (.tuple #[viewV (k5.s j), .int .i64 (0 : Nat)]) ∧ Below wr.heap.size wr w' := by
                obtain ⟨_, _, _, hK, _, _⟩ := hk6
                obtain ⟨ch, q, cm, o, ev, qe, ce, oe, hS⟩ := hK.st j hj
                exact view_open hS
              have hcfg : (cfgs x j).m = (x.cfg 1).m ∧ (cfgs x j).win = (x.cfg 1).win ∧ (cfgs x j).tim = (x.cfg 1).tim ∧ (cfgs x j).tri = (x.cfg 1).tri ∧ (cfgs x j).room = (x.cfg 1).room := ⟨rfl, rfl, rfl, rfl, rfl⟩
              have hcb6 : wr.heap[w2.heap.size]? = _ := (hbel6.ext (by show w2.heap.size < _; omega)).trans (unhide HCB)
              have hlt6 : w2.heap.size < wr.heap.size := (Array.getElem?_eq_some_iff.1 hcb6).1
              obtain ⟨q1, q2, q3, q4, q5⟩ := hcfg
              have o1 := hok.vs
              have o2 := hok.va
              have o3 : ahead (cfgs x j) (k5.s j) (k5.s j).vs ≤ (cfgs x j).win := Nat.le_trans hok.svs hok.vmw
              have o4 := hok.q20
              have o5 := hok.came
              have o6 := hok.timer
              have o7 := hok.tries
              have o8 : (k5.s j).state ≠ 2 → (k5.s j).queue.length = 0 ∧ (k5.s j).polling = false ∧ (k5.s j).peer = false := fun h => by have := hok.down h; exact ⟨by rw [this.1]; rfl, this.2.1, this.2.2.1⟩
              have omm := (cfgs_ok x hj).m
              unfold ahead at o3
              rw [q1] at o1 o2 o3 omm
              rw [q2] at o3
              rw [q5] at o5
              rw [q3] at o6
              rw [q4] at o7
              unfold viewV at kv
              generalize (k5.s j).state = vst at *
              generalize (k5.s j).vs = vvs at *
              generalize (k5.s j).va = vva at *
              generalize (k5.s j).vr = vvr at *
              generalize (k5.s j).timer = vti at *
              generalize (k5.s j).tries = vtr at *
              generalize (k5.s j).polling = vpo at *
              generalize (k5.s j).peer = vpe at *
              generalize (k5.s j).busy = vbu at *
              generalize (k5.s j).queue.length = vqu at *
              generalize (k5.s j).came.length = vca at *
              have KV := hide kv
              have HK6 := hide hk6
              have HCB6 := hide hcb6
              have HB6 := hide hB6
              have HO8 := hide o8
              clear kv hk6 hcb6 hB6 hok q1 q2 q3 q4 q5 hbel6 o8
              go_wp2_with fail
              refine (unhide KV).mono ?_
              rintro e w7 ⟨rfl, hb7⟩
              have hcb7 : w7.heap[w2.heap.size]? = _ := ((show Keeps (fun _ => False) wr w7 from Keeps.of hb7).block _ hlt6 id).trans (unhide HCB6)
              have z0 : w7.cell? ⟨w2.heap.size, 0, none⟩ = some (.int .i64 (x.cfg 1).m) := by rw [Lib.cell_of_heap hcb7]; rfl
              have z1 : w7.cell? ⟨w2.heap.size, 1, none⟩ = some (.int .i64 (x.cfg 1).win) := by rw [Lib.cell_of_heap hcb7]; rfl
              have z2 : w7.cell? ⟨w2.heap.size, 2, none⟩ = some (.int .i64 (x.cfg 1).tim) := by rw [Lib.cell_of_heap hcb7]; rfl
              have z3 : w7.cell? ⟨w2.heap.size, 3, none⟩ = some (.int .i64 (x.cfg 1).tri) := by rw [Lib.cell_of_heap hcb7]; rfl
              have z4 : w7.cell? ⟨w2.heap.size, 4, none⟩ = some (.int .i64 (x.cfg 1).room) := by rw [Lib.cell_of_heap hcb7]; rfl
              have hlt7 : w2.heap.size < w7.heap.size := Nat.lt_of_lt_of_le hlt6 hb7.size
              have hne7 : ¬ w2.heap.size = w7.heap.size := by omega
              have hk8 : ∀ V, Below w7.heap.size w7 V → k5.at ⟨w.heap.size + 1, w2.heap.size⟩ W3 kb b (cfgs x) V := fun V hV => (unhide HK6).later (unhide HB6) (hb7.trans (hV.mono hb7.size))
              have HK8 := hide hk8
              clear hk8 hcb7 hb7 KV HK6 HCB6 HB6
              have oad := (x.cfg 1).addr
              clear oad
              generalize (x.cfg 1).m = M at *
              generalize (x.cfg 1).win = WI at *
              generalize (x.cfg 1).tim = TI at *
              generalize (x.cfg 1).tri = TR at *
              generalize (x.cfg 1).room = RO at *
              rcases omm with rfl | rfl
              · have i1 : decide ((WI : Int) < ((vvs : Int) - vva) % 8) = false := by simp; omega
                have i2 : decide ((20 : Int) < (vqu : Int)) = false := by simp; omega
                have i2b : decide (20 < vqu) = false := by simp; omega
                have i3 : decide (RO < vca) = false := by simp; omega
                have i4 : decide (TI < vti) = false := by simp; omega
                have i5 : decide (TR < vtr) = false := by simp; omega
                clear o3
                go_wp2
                go_quiet (fail)
                clear i1 i2 i2b i3 i4 i5
                have hfin : ∀ N, k5.at ⟨w.heap.size + 1, w2.heap.size⟩ W3 kb b (cfgs x) ((w7.alloc (.cells #[.int .i64 vst, .int .i64 vvs, .int .i64 vva, .int .i64 vvr, .int .i64 vti, .int .i64 vtr, .bool vpo, .bool vpe, .bool vbu, .int .i64 vqu, .int .i64 vca] 54)).drewN N) := fun N => unhide HK8 _ (below_drewN ((Below.refl _ w7).alloc (Nat.le_refl _) _) N)
                have HFIN := hide hfin
                clear hfin HK8
                by_cases hst : vst = 2
                · have hst2 : (vst : Int) = 2 := by omega
                  subst hst
                  go_wp2
                  go_roundg (gk - 1)
                  case measure => omega
                  case rel => exact ⟨j + 1, by omega, by go_num, by first | exact unhide HFIN _ | exact unhide HFIN 0⟩
                · have hst2 : ((vst : Int) == 2) = false := by simp; omega
                  have hst3 : ((vst : Int) != 2) = true := by simp; omega
                  obtain ⟨u1, u2, u3⟩ := unhide HO8 hst
                  subst u1 u2 u3
                  go_wp2
                  go_roundg (gk - 1)
                  case measure => omega
                  case rel => exact ⟨j + 1, by omega, by go_num, by first | exact unhide HFIN _ | exact unhide HFIN 0⟩
              · have i1 : decide ((WI : Int) < ((vvs : Int) - vva) % 128) = false := by simp; omega
                have i2 : decide ((20 : Int) < (vqu : Int)) = false := by simp; omega
                have i2b : decide (20 < vqu) = false := by simp; omega
                have i3 : decide (RO < vca) = false := by simp; omega
                have i4 : decide (TI < vti) = false := by simp; omega
                have i5 : decide (TR < vtr) = false := by simp; omega
                clear o3
                go_wp2
                go_quiet (fail)
                clear i1 i2 i2b i3 i4 i5
                have hfin : ∀ N, k5.at ⟨w.heap.size + 1, w2.heap.size⟩ W3 kb b (cfgs x) ((w7.alloc (.cells #[.int .i64 vst, .int .i64 vvs, .int .i64 vva, .int .i64 vvr, .int .i64 vti, .int .i64 vtr, .bool vpo, .bool vpe, .bool vbu, .int .i64 vqu, .int .i64 vca] 54)).drewN N) := fun N => unhide HK8 _ (below_drewN ((Below.refl _ w7).alloc (Nat.le_refl _) _) N)
                have HFIN := hide hfin
                clear hfin HK8
                by_cases hst : vst = 2
                · have hst2 : (vst : Int) = 2 := by omega
                  subst hst
                  go_wp2
                  go_roundg (gk - 1)
                  case measure => omega
                  case rel => exact ⟨j + 1, by omega, by go_num, by first | exact unhide HFIN _ | exact unhide HFIN 0⟩
                · have hst2 : ((vst : Int) == 2) = false := by simp; omega
                  have hst3 : ((vst : Int) != 2) = true := by simp; omega
                  obtain ⟨u1, u2, u3⟩ := unhide HO8 hst
                  subst u1 u2 u3
                  go_wp2
                  go_roundg (gk - 1)
                  case measure => omega
                  case rel => exact ⟨j + 1, by omega, by go_num, by first | exact unhide HFIN _ | exact unhide HFIN 0⟩
            · have hj2 : ¬ ((j : Int) < 2) := by omega
              have HR : Hid (WithInv ⟨w.heap.size + 1, w2.heap.size⟩ W3 kb b (cfgs x) (r + 1) wr) := hide ⟨k5, hk6, unhide HF5⟩
              clear hk6 HF5 HMV HTX HCB
              go_wp2
              go_roundg (199 - r)
              case measure => omega
              case rel => exact ⟨r + 1, by omega, by go_num, unhide HR⟩
      · clear HMV HTX HCB hk hf
        have h2i : ¬ ((r : Int) < 200) := by omega
        have h1i : (r : Int) < (nm : Int) := by omega
        go_wp2
        go_ret
        exact ⟨rfl, unhide HEND⟩
    · clear HMV HTX HCB hk hf
      have h1i : ¬ ((r : Int) < (nm : Int)) := by omega
      go_wp2
      go_ret
      exact ⟨rfl, unhide HEND⟩
end Go.Proofs.YtkalonhalhdlaaaDoor
