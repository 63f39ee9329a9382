/-
  What one call of begun does.
-/
import Derived.Test.YtkalonhalhdlaaaDoorKBeg1
namespace Go.Proofs.YtkalonhalhdlaaaDoor
open Go.RowKit

theorem beg_start (w : World) (x : Raw) (hC : Ctl w) (hw : 0 < w.heap.size) (b : Nat → Nat) {W : World} (hW : W = (w.alloc (.cells #[.bool x.wide, .int .i64 x.win, .int .i64 x.tim, .int .i64 x.tri, .int .i64 x.room] 33)).alloc (.cells (begCells b 0) 51)) :
    Beg w x (w.heap.size + 1) b 0 (ownNew (fun _ => 0) (w.heap.size + 1) (w.heap.size + 2) (tg 2 0)) W := by
  have hbl : Below w.heap.size w W := by rw [hW]; exact ((Below.refl _ w).alloc (Nat.le_refl _) _).alloc (by simp) _
  have hsz : W.heap.size = w.heap.size + 2 := by rw [hW]; exact alloc2_s _ _ _
  refine ⟨?_, ownNew_new (Nat.le_refl _) (by omega), fun i hi => absurd hi (by omega), ?_, by omega, ?_, hbl, ownNew_old (by omega), hC.below hbl hw, ?_⟩
  · rw [hW]
    have := alloc1_a (w.alloc (.cells #[.bool x.wide, .int .i64 x.win, .int .i64 x.tim, .int .i64 x.tri, .int .i64 x.room] 33)) (.cells (begCells b 0) 51)
    rw [alloc1_s] at this
    exact this
  · rw [hW, Below.heap_alloc _ _ _ (by rw [alloc1_s]; omega)]
    exact alloc1_a w _
  · intro k hk
    by_cases h : k < w.heap.size + 1
    · rw [ownNew_old h] at hk
      exact absurd rfl hk
    · omega
  · intro k hk
    exact ownNew_0 (by omega) (by omega)
theorem row_one {w : World} {v : Value} {y : Value} {e : TypeId} (h : w.ownsRow 0 e 1 v 1 [y]) : ∃ g cap, v = .slice (some ⟨g, 0, none⟩) 1 cap ∧ w.cell? ⟨g, 0, none⟩ = some y := by
  obtain ⟨_, h2⟩ := h
  rcases h2 with ⟨_, h2⟩ | ⟨g, cap, cur, rfl, _, h3, h4, _, h6, h7⟩
  · omega
  · refine ⟨g, cap, rfl, ?_⟩
    rw [Lib.cell_of_heap h3]
    have hc : 0 < cur.size := by omega
    have : cur.toList.take (1 * 1) = [y] := h7
    rcases hcur : cur.toList with _ | ⟨a, r⟩
    · rw [hcur] at this; simp at this
    · rw [hcur] at this
      simp at this
      rw [← this, ← Array.getElem?_toList, hcur]
      rfl
def evS (j : Nat) : Nat → St := fun i => if i < j then stUp else { stUp with events := [1] }

set_option maxHeartbeats 8000000 in
set_option maxRecDepth 100000 in
theorem begun_any (x : Raw) (hx : x.fits) (w : World) (hC : Ctl w) (hw : 0 < w.heap.size) :
    Calls Tryd.prog 11 #[x.val] w fun e w' => ∃ kb b, e = .returned (.pointer (some ⟨kb, 0, none⟩)) ∧ LinkIs (fen w.heap.size 0) w kb b (cfgs x) (fun _ => stUp) (fun _ => []) (fun _ => []) (fun _ => 0) false w' := by
  have HS : Hid (∀ W, W = (w.alloc (.cells #[.bool x.wide, .int .i64 x.win, .int .i64 x.tim, .int .i64 x.tri, .int .i64 x.room] 33)).alloc (.cells (begCells (fun _ => 0) 0) 51) → Beg w x (w.heap.size + 1) (fun _ => 0) 0 (ownNew (fun _ => 0) (w.heap.size + 1) (w.heap.size + 2) (tg 2 0)) W) := hide (fun W hW => beg_start w x hC hw _ hW)
  clear hC
  simp only [Raw.val]
  go_enter Tryd.func11, Tryd.ntmps11
  go_wp2
  go_loopg [4] 2 (fun k i wr => ∃ j : Nat, j + k = 2 ∧ i = .int .i64 j ∧ ∃ b own, Beg w x (w.heap.size + 1) b j own wr)
  case atStart => exact ⟨0, rfl, rfl, _, _, unhide HS _ rfl⟩
  case round =>
    obtain ⟨j, hjk, rfl, b, own, hbeg⟩ := hrel
    clear HS
    have hcj : j = 0 ∨ j = 1 ∨ j = 2 := by omega
    have y0 : wr.cell? ⟨w.heap.size, 0, none⟩ = some (.bool x.wide) := by rw [Lib.cell_of_heap hbeg.xb]; rfl
    have y1 : wr.cell? ⟨w.heap.size, 1, none⟩ = some (.int .i64 x.win) := by rw [Lib.cell_of_heap hbeg.xb]; rfl
    have y2 : wr.cell? ⟨w.heap.size, 2, none⟩ = some (.int .i64 x.tim) := by rw [Lib.cell_of_heap hbeg.xb]; rfl
    have y3 : wr.cell? ⟨w.heap.size, 3, none⟩ = some (.int .i64 x.tri) := by rw [Lib.cell_of_heap hbeg.xb]; rfl
    have y4 : wr.cell? ⟨w.heap.size, 4, none⟩ = some (.int .i64 x.room) := by rw [Lib.cell_of_heap hbeg.xb]; rfl
    rcases hcj with rfl | rfl | rfl
    · have k1 := fun V => config_any x hx 3 V
      simp only [Raw.val, show ((3 : Nat) : Int) = 3 from rfl] at k1
      have HB := hide hbeg
      clear hbeg
      go_wp2_with fail
      refine (k1 _).mono ?_
      rintro e V ⟨rfl, hV⟩
      clear k1
      have hb := unhide HB
      have hbs := hb.bel.size
      have k2 := new_yes (x.cfg 3) (cfgs_ok x (i := 0) (by omega)) 0 own V hb.own0 (hb.ctl.below hV (by omega)) (by have := hV.size; omega)
      have HV := hide hV
      have K2 := hide k2
      clear hb hV k2 y0 y1 y2 y3 y4
      go_wp2_with fail
      refine (unhide K2).mono ?_
      rintro e w2 ⟨bj, rfl, hbj, h2, hS2⟩
      have hm := (unhide HB).more (j := 0) (by omega) (unhide HV) h2 hS2
      have hkb : w2.cell? ⟨w.heap.size + 1, 0, none⟩ = some (.pointer none) := by
        have hh := (unhide HB).head
        have hlt := (unhide HB).lt
        have h3 : Below wr.heap.size wr w2 := (unhide HV).trans (h2.mono (unhide HV).size)
        rw [h3.cell (p := ⟨w.heap.size + 1, 0, none⟩) hlt, Lib.cell_of_heap hh]
        rfl
      have fkb : w2.frozen? ⟨w.heap.size + 1, 0, none⟩ = false := by
        have hh := (unhide HB).head
        have hlt := (unhide HB).lt
        have h3 : Below wr.heap.size wr w2 := (unhide HV).trans (h2.mono (unhide HV).size)
        have h4 : w2.heap[w.heap.size + 1]? = _ := ((show Keeps (fun _ => False) wr w2 from Keeps.of h3).block _ hlt id).trans hh
        exact Lib.frozen_of_heap h4 0
      have HM := hide hm
      clear h2 hS2 hm K2 HV HB
      go_wp2
      go_roundg (gk - 1)
      case measure => omega
      case rel => exact ⟨1, by omega, by go_num, _, _, unhide HM⟩
    · have k1 := fun V => config_any x hx 1 V
      simp only [Raw.val, show ((1 : Nat) : Int) = 1 from rfl] at k1
      have HB := hide hbeg
      clear hbeg
      go_wp2_with fail
      refine (k1 _).mono ?_
      rintro e V ⟨rfl, hV⟩
      clear k1
      have hb := unhide HB
      have hbs := hb.bel.size
      have k2 := new_yes (x.cfg 1) (cfgs_ok x (i := 1) (by omega)) 1 own V hb.own0 (hb.ctl.below hV (by omega)) (by have := hV.size; omega)
      have HV := hide hV
      have K2 := hide k2
      clear hb hV k2 y0 y1 y2 y3 y4
      go_wp2_with fail
      refine (unhide K2).mono ?_
      rintro e w2 ⟨bj, rfl, hbj, h2, hS2⟩
      have hm := (unhide HB).more (j := 1) (by omega) (unhide HV) h2 hS2
      have hkb : w2.cell? ⟨w.heap.size + 1, 1, none⟩ = some (.pointer none) := by
        have hh := (unhide HB).head
        have hlt := (unhide HB).lt
        have h3 : Below wr.heap.size wr w2 := (unhide HV).trans (h2.mono (unhide HV).size)
        rw [h3.cell (p := ⟨w.heap.size + 1, 1, none⟩) hlt, Lib.cell_of_heap hh]
        rfl
      have fkb : w2.frozen? ⟨w.heap.size + 1, 1, none⟩ = false := by
        have hh := (unhide HB).head
        have hlt := (unhide HB).lt
        have h3 : Below wr.heap.size wr w2 := (unhide HV).trans (h2.mono (unhide HV).size)
        have h4 : w2.heap[w.heap.size + 1]? = _ := ((show Keeps (fun _ => False) wr w2 from Keeps.of h3).block _ hlt id).trans hh
        exact Lib.frozen_of_heap h4 1
      have HM := hide hm
      clear h2 hS2 hm K2 HV HB
      go_wp2
      go_roundg (gk - 1)
      case measure => omega
      case rel => exact ⟨2, by omega, by go_num, _, _, unhide HM⟩
    · have hK := hbeg.link
      have hlo : Lo (fen w.heap.size 0) own := fun k hk => ⟨hbeg.lo k hk, fun e => by have := hbeg.lo k hk; have e' : k = 0 := e; omega⟩
      have htop : (fen w.heap.size 0).top = w.heap.size := by unfold Fen.top; show max w.heap.size (0 + 1) = _; omega
      have hbw : Bel (fen w.heap.size 0) w wr := ⟨hbeg.bel, fun y hy _ => by have e : y = 0 := hy; subst e; exact (show Keeps (fun _ => False) w wr from Keeps.of hbeg.bel).block _ hw id⟩
      have hBs : (fen w.heap.size 0).top ≤ wr.heap.size := by rw [htop]; exact hbw.size
      generalize w.heap.size + 1 = kb at *
      obtain ⟨ch, q, cm, o, ev, qe, ce, oe, hS⟩ := hK.st 0 (by omega)
      have k1 := connect_any hS (by simp [St.fresh])
      simp only [Bool.false_eq_true, if_false] at k1
      rw [begS_first] at k1
      have c0 := hK.cell 0 rfl
      have HK := hide hK
      have HLO := hide hlo
      have HBW := hide hbw
      have HOK0 := hide (connectS_ok (cfgs_ok x (i := 0) (by omega)) (hK.sok 0 (by omega)))
      clear hK hlo hbw hS hbeg y0 y1 y2 y3 y4
      have K1 := hide k1
      clear k1
      go_wp2_with fail
      refine (unhide K1).mono ?_
      rintro e w1 ⟨rfl, own1, hS1, u1⟩
      have hk1 := (unhide HK).called (by omega) u1.f hS1 (by have := unhide HOK0; rw [begS_first] at this; exact this)
      obtain ⟨hl1, hb1⟩ := (unhide HLO).updF hBs u1.f
      have HI : Hid (LinkIs (fen w.heap.size 0) w kb b (cfgs x) (begS x 0) (fun _ => []) (fun _ => []) (fun _ => 0) false w1) := hide ⟨_, _, _, hk1.congr (fun i hi => by
        have : i = 0 ∨ i = 1 := by omega
        rcases this with rfl | rfl <;> simp [upd, begS]) (fun _ _ => rfl), hl1, (unhide HBW).trans hb1⟩
      clear K1 hS1 u1 hk1 hl1 hb1 HK HLO HBW HOK0 c0
      go_wp2
      go_loopg [8] 2 (fun k i wr => ∃ j : Nat, j + k = 2 ∧ i = .int .i64 j ∧ LinkIs (fen w.heap.size 0) w kb b (cfgs x) (begS x j) (fun _ => []) (fun _ => []) (fun _ => 0) false wr)
      case atStart => exact ⟨0, rfl, rfl, unhide HI⟩
      case round =>
        obtain ⟨j, hjk, rfl, own2, v2, g2, h2, hlo2, hb2⟩ := hrel
        clear HI
        have hB2 : (fen w.heap.size 0).top ≤ wr.heap.size := by rw [htop]; exact hb2.size
        have hcj : j = 0 ∨ j = 1 ∨ j = 2 := by omega
        rcases hcj with rfl | rfl | rfl
        · obtain ⟨ch, q, cm, o, ev, qe, ce, oe, hS⟩ := h2.st 0 (by omega)
          have k1 := out_any hS
          simp only [Bool.false_eq_true, if_false] at k1
          have c0 : wr.cell? ⟨kb, 0, none⟩ = some (.pointer (some ⟨b 0, 0, none⟩)) := h2.cell 0 rfl
          have K1 := hide k1
          have H2 := hide h2
          have HS := hide hS
          have HLO2 := hide hlo2
          have HB2 := hide hb2
          clear k1 h2 hS hlo2 hb2
          rw [show ((0 : Nat) : Int) = 0 from rfl]
          go_wp2_with fail
          refine (unhide K1).mono ?_
          rintro e w3 ⟨rfl, hS3, hL3, hK3⟩
          obtain ⟨h3, hL3', hu3⟩ := (unhide H2).outed (by omega) (unhide HS) hS3 hL3 hK3
          obtain ⟨hlo3, hb3⟩ := (unhide HLO2).updF hB2 hu3
          have hB3 : (fen w.heap.size 0).top ≤ w3.heap.size := Nat.le_trans hB2 hb3.size
          have hW3 := hL3'.way
          rw [begS_out x (by omega)] at hW3
          obtain ⟨g, off, cap, rfl, hc1, hc2, ⟨p, pc, hcell, hsrc, hp1, hp2, hpo⟩, _⟩ := hW3.tail
          simp only [List.length_nil, Nat.zero_add] at hc1 ⊢
          unfold maxLen at hc2 hp2
          have d0 : w3.cell? ⟨kb, 1, none⟩ = some (.pointer (some ⟨b 1, 0, none⟩)) := h3.cell 1 rfl
          have hml := begF_len x 0
          have hst3 : ∀ V, Below w3.heap.size w3 V → KAt V (freed own2 (tg 0 3)) kb b (cfgs x) (upd (begS x 0) 0 { begS x 0 0 with out := [] }) v2 g2 (fun _ => []) (fun _ => []) (fun _ => 0) false := fun V hV => h3.later hV
          have k2 : ∀ V, Below w3.heap.size w3 V → Calls Tryd.prog 14 #[.pointer (some ⟨b 1, 0, none⟩), .slice p (begF x 0).length pc] V fun e w' => Ans 0 1 (b 1) (cfgs x 1) (begS x 1 1) false (freed own2 (tg 0 3)) V e w' := by
            intro V hV
            obtain ⟨ch, q, cm, o, ev, qe, ce, oe, hS⟩ := (hst3 V hV).st 1 (by omega)
            have hn : upd (begS x 0) 0 { begS x 0 0 with out := [] } 1 = begS x 0 1 := upd_other _ _ (by omega)
            rw [hn] at hS
            have hok := (hst3 V hV).sok 1 (by omega)
            rw [hn] at hok
            have k := hear_any hS p pc (begF x 0) (hsrc.keeps (n := (begF x 0).length) (c := pc) (show Keeps (fun _ => False) w3 V from Keeps.of hV) (fun _ _ h => h)) (by omega) hp1 (by omega) hok.svm (by simp [begS, St.fresh]) (by simp [begS, St.fresh])
            simp only [Bool.false_eq_true, if_false] at k
            rw [begS_hear x (j := 0) (by omega)] at k
            exact k
          have K2 := hide k2
          have HST := hide hst3
          have HLO3 := hide hlo3
          have HB3 := hide ((unhide HB2).trans hb3)
          have hokn : (begS x 1 1).ok (cfgs x 1) := by
            have hok := h3.sok 1 (by omega)
            have hn : upd (begS x 0) 0 { begS x 0 0 with out := [] } 1 = begS x 0 1 := upd_other _ _ (by omega)
            rw [hn] at hok
            have := hearS_ok (cfgs_ok x (i := 1) (by omega)) hok (begF x 0)
            rw [begS_hear x (j := 0) (by omega)] at this
            exact this
          have HOKN := hide hokn
          clear k2 hst3 hlo3 hb3 hW3 hL3 hL3' hS3 hK3 h3 hu3 K1 H2 HS HLO2 HB2 c0 hsrc hokn hpo
          generalize (begF x 0).length = fl at *
          go_wp2_with fail
          go_region_with ((go_at_call 14; refine (unhide K2 _ ?_).mono ?_; (first | exact Below.refl _ _ | exact (Below.refl _ _).drew); rintro e w4 ⟨rfl, own4, hS4, u4⟩))
          all_goals
            have hk4 : KAt w4 own4 kb b (cfgs x) (upd (upd (begS x 0) 0 { begS x 0 0 with out := [] }) 1 (begS x 1 1)) v2 g2 (fun _ => []) (fun _ => []) (fun _ => 0) false := by first | exact (unhide HST _ (Below.refl _ _)).called (by omega) u4.f hS4 (unhide HOKN) | exact (unhide HST _ ((Below.refl _ _).drew)).called (by omega) u4.f hS4 (unhide HOKN)
            have hl4 : Lo (fen w.heap.size 0) own4 ∧ Bel (fen w.heap.size 0) w3 w4 := by first | exact (unhide HLO3).updF hB3 u4.f | exact (fun q => ⟨q.1, ((Bel.refl _ _).drew).trans q.2⟩) ((unhide HLO3).updF (w := w3.drew) hB3 u4.f)
            have HI4 : Hid (LinkIs (fen w.heap.size 0) w kb b (cfgs x) (begS x 1) (fun _ => []) (fun _ => []) (fun _ => 0) false w4) := hide ⟨_, _, _, hk4.congr (fun i hi => (begS_next x (j := 0) (by omega) hi).symm) (fun _ _ => rfl), hl4.1, (unhide HB3).trans hl4.2⟩
            clear hk4 hl4 u4 hS4 K2 HST HLO3 HB3 HOKN d0 hcell
            go_wp2
            go_roundg (gk - 1)
            case measure => omega
            case rel => exact ⟨1, by omega, by go_num, unhide HI4⟩
        · obtain ⟨ch, q, cm, o, ev, qe, ce, oe, hS⟩ := h2.st 1 (by omega)
          have k1 := out_any hS
          simp only [Bool.false_eq_true, if_false] at k1
          have c0 : wr.cell? ⟨kb, 1, none⟩ = some (.pointer (some ⟨b 1, 0, none⟩)) := h2.cell 1 rfl
          have K1 := hide k1
          have H2 := hide h2
          have HS := hide hS
          have HLO2 := hide hlo2
          have HB2 := hide hb2
          clear k1 h2 hS hlo2 hb2
          rw [show ((1 : Nat) : Int) = 1 from rfl]
          go_wp2_with fail
          refine (unhide K1).mono ?_
          rintro e w3 ⟨rfl, hS3, hL3, hK3⟩
          obtain ⟨h3, hL3', hu3⟩ := (unhide H2).outed (by omega) (unhide HS) hS3 hL3 hK3
          obtain ⟨hlo3, hb3⟩ := (unhide HLO2).updF hB2 hu3
          have hB3 : (fen w.heap.size 0).top ≤ w3.heap.size := Nat.le_trans hB2 hb3.size
          have hW3 := hL3'.way
          rw [begS_out x (by omega)] at hW3
          obtain ⟨g, off, cap, rfl, hc1, hc2, ⟨p, pc, hcell, hsrc, hp1, hp2, hpo⟩, _⟩ := hW3.tail
          simp only [List.length_nil, Nat.zero_add] at hc1 ⊢
          unfold maxLen at hc2 hp2
          have d0 : w3.cell? ⟨kb, 0, none⟩ = some (.pointer (some ⟨b 0, 0, none⟩)) := h3.cell 0 rfl
          have hml := begF_len x 1
          have hst3 : ∀ V, Below w3.heap.size w3 V → KAt V (freed own2 (tg 1 3)) kb b (cfgs x) (upd (begS x 1) 1 { begS x 1 1 with out := [] }) v2 g2 (fun _ => []) (fun _ => []) (fun _ => 0) false := fun V hV => h3.later hV
          have k2 : ∀ V, Below w3.heap.size w3 V → Calls Tryd.prog 14 #[.pointer (some ⟨b 0, 0, none⟩), .slice p (begF x 1).length pc] V fun e w' => Ans 0 0 (b 0) (cfgs x 0) (begS x 2 0) false (freed own2 (tg 1 3)) V e w' := by
            intro V hV
            obtain ⟨ch, q, cm, o, ev, qe, ce, oe, hS⟩ := (hst3 V hV).st 0 (by omega)
            have hn : upd (begS x 1) 1 { begS x 1 1 with out := [] } 0 = begS x 1 0 := upd_other _ _ (by omega)
            rw [hn] at hS
            have hok := (hst3 V hV).sok 0 (by omega)
            rw [hn] at hok
            have k := hear_any hS p pc (begF x 1) (hsrc.keeps (n := (begF x 1).length) (c := pc) (show Keeps (fun _ => False) w3 V from Keeps.of hV) (fun _ _ h => h)) (by omega) hp1 (by omega) hok.svm (by simp [begS, stCall, St.fresh]) (by simp [begS, stCall, St.fresh])
            simp only [Bool.false_eq_true, if_false] at k
            rw [begS_hear x (j := 1) (by omega)] at k
            exact k
          have K2 := hide k2
          have HST := hide hst3
          have HLO3 := hide hlo3
          have HB3 := hide ((unhide HB2).trans hb3)
          have hokn : (begS x 2 0).ok (cfgs x 0) := by
            have hok := h3.sok 0 (by omega)
            have hn : upd (begS x 1) 1 { begS x 1 1 with out := [] } 0 = begS x 1 0 := upd_other _ _ (by omega)
            rw [hn] at hok
            have := hearS_ok (cfgs_ok x (i := 0) (by omega)) hok (begF x 1)
            rw [begS_hear x (j := 1) (by omega)] at this
            exact this
          have HOKN := hide hokn
          clear k2 hst3 hlo3 hb3 hW3 hL3 hL3' hS3 hK3 h3 hu3 K1 H2 HS HLO2 HB2 c0 hsrc hokn hpo
          generalize (begF x 1).length = fl at *
          go_wp2_with fail
          go_region_with ((go_at_call 14; refine (unhide K2 _ ?_).mono ?_; (first | exact Below.refl _ _ | exact (Below.refl _ _).drew); rintro e w4 ⟨rfl, own4, hS4, u4⟩))
          all_goals
            have hk4 : KAt w4 own4 kb b (cfgs x) (upd (upd (begS x 1) 1 { begS x 1 1 with out := [] }) 0 (begS x 2 0)) v2 g2 (fun _ => []) (fun _ => []) (fun _ => 0) false := by first | exact (unhide HST _ (Below.refl _ _)).called (by omega) u4.f hS4 (unhide HOKN) | exact (unhide HST _ ((Below.refl _ _).drew)).called (by omega) u4.f hS4 (unhide HOKN)
            have hl4 : Lo (fen w.heap.size 0) own4 ∧ Bel (fen w.heap.size 0) w3 w4 := by first | exact (unhide HLO3).updF hB3 u4.f | exact (fun q => ⟨q.1, ((Bel.refl _ _).drew).trans q.2⟩) ((unhide HLO3).updF (w := w3.drew) hB3 u4.f)
            have HI4 : Hid (LinkIs (fen w.heap.size 0) w kb b (cfgs x) (begS x 2) (fun _ => []) (fun _ => []) (fun _ => 0) false w4) := hide ⟨_, _, _, hk4.congr (fun i hi => (begS_next x (j := 1) (by omega) hi).symm) (fun _ _ => rfl), hl4.1, (unhide HB3).trans hl4.2⟩
            clear hk4 hl4 u4 hS4 K2 HST HLO3 HB3 HOKN d0 hcell
            go_wp2
            go_roundg (gk - 1)
            case measure => omega
            case rel => exact ⟨2, by omega, by go_num, unhide HI4⟩
        · have HI5 : Hid (LinkIs (fen w.heap.size 0) w kb b (cfgs x) (evS 0) (fun _ => []) (fun _ => []) (fun _ => 0) false wr) := hide ⟨_, _, _, h2.congr (fun i _ => by simp [evS, begS]) (fun _ _ => rfl), hlo2, hb2⟩
          clear h2 hlo2 hb2
          go_wp2
          go_loopg [11] 2 (fun k i wr => ∃ j : Nat, j + k = 2 ∧ i = .int .i64 j ∧ LinkIs (fen w.heap.size 0) w kb b (cfgs x) (evS j) (fun _ => []) (fun _ => []) (fun _ => 0) false wr)
          case atStart => exact ⟨0, rfl, rfl, unhide HI5⟩
          case round =>
            obtain ⟨j, hjk, rfl, own5, v5, g5, h5, hlo5, hb5⟩ := hrel
            clear HI5
            have hB5 : (fen w.heap.size 0).top ≤ wr.heap.size := by rw [htop]; exact hb5.size
            have hcj : j = 0 ∨ j = 1 ∨ j = 2 := by omega
            rcases hcj with rfl | rfl | rfl
            · obtain ⟨ch, q, cm, o, ev, qe, ce, oe, hS⟩ := h5.st 0 (by omega)
              have k1 := events_any hS
              simp only [Bool.false_eq_true, if_false] at k1
              have c0 : wr.cell? ⟨kb, 0, none⟩ = some (.pointer (some ⟨b 0, 0, none⟩)) := h5.cell 0 rfl
              have K1 := hide k1
              have H5 := hide h5
              have HS := hide hS
              have HLO5 := hide hlo5
              have HB5 := hide hb5
              clear k1 h5 hS hlo5 hb5
              rw [show ((0 : Nat) : Int) = 0 from rfl]
              go_wp2_with fail
              refine (unhide K1).mono ?_
              rintro e w6 ⟨rfl, hS6, hrow, hK6⟩
              obtain ⟨h6, hu6⟩ := (unhide H5).evented (by omega) (unhide HS) hS6 hK6
              obtain ⟨hlo6, hb6⟩ := (unhide HLO5).updF hB5 hu6
              have hr : w6.ownsRow 0 3 1 ev 1 [.int .i64 1] := hrow
              obtain ⟨g, cap, rfl, hcell⟩ := row_one hr
              have HI6 : Hid (LinkIs (fen w.heap.size 0) w kb b (cfgs x) (evS 1) (fun _ => []) (fun _ => []) (fun _ => 0) false w6) := hide ⟨_, _, _, h6.congr (fun i hi => by
                have : i = 0 ∨ i = 1 := by omega
                rcases this with rfl | rfl <;> simp [upd, evS, stUp, St.fresh]) (fun _ _ => rfl), hlo6, (unhide HB5).trans hb6⟩
              clear hS6 hrow hK6 h6 hu6 hlo6 hb6 hr K1 H5 HS HLO5 HB5 c0
              go_wp2
              go_roundg (gk - 1)
              case measure => omega
              case rel => exact ⟨1, by omega, by go_num, unhide HI6⟩
            · obtain ⟨ch, q, cm, o, ev, qe, ce, oe, hS⟩ := h5.st 1 (by omega)
              have k1 := events_any hS
              simp only [Bool.false_eq_true, if_false] at k1
              have c0 : wr.cell? ⟨kb, 1, none⟩ = some (.pointer (some ⟨b 1, 0, none⟩)) := h5.cell 1 rfl
              have K1 := hide k1
              have H5 := hide h5
              have HS := hide hS
              have HLO5 := hide hlo5
              have HB5 := hide hb5
              clear k1 h5 hS hlo5 hb5
              rw [show ((1 : Nat) : Int) = 1 from rfl]
              go_wp2_with fail
              refine (unhide K1).mono ?_
              rintro e w6 ⟨rfl, hS6, hrow, hK6⟩
              obtain ⟨h6, hu6⟩ := (unhide H5).evented (by omega) (unhide HS) hS6 hK6
              obtain ⟨hlo6, hb6⟩ := (unhide HLO5).updF hB5 hu6
              have hr : w6.ownsRow 0 3 1 ev 1 [.int .i64 1] := hrow
              obtain ⟨g, cap, rfl, hcell⟩ := row_one hr
              have HI6 : Hid (LinkIs (fen w.heap.size 0) w kb b (cfgs x) (evS 2) (fun _ => []) (fun _ => []) (fun _ => 0) false w6) := hide ⟨_, _, _, h6.congr (fun i hi => by
                have : i = 0 ∨ i = 1 := by omega
                rcases this with rfl | rfl <;> simp [upd, evS, stUp, St.fresh]) (fun _ _ => rfl), hlo6, (unhide HB5).trans hb6⟩
              clear hS6 hrow hK6 h6 hu6 hlo6 hb6 hr K1 H5 HS HLO5 HB5 c0
              go_wp2
              go_roundg (gk - 1)
              case measure => omega
              case rel => exact ⟨2, by omega, by go_num, unhide HI6⟩
            · have HI7 : Hid (LinkIs (fen w.heap.size 0) w kb b (cfgs x) (fun _ => stUp) (fun _ => []) (fun _ => []) (fun _ => 0) false wr) := hide ⟨_, _, _, h5.congr (fun i hi => by simp [evS, hi]) (fun _ _ => rfl), hlo5, hb5⟩
              clear h5 hlo5 hb5
              go_wp2
              go_ret
              exact ⟨kb, b, rfl, unhide HI7⟩
end Go.Proofs.YtkalonhalhdlaaaDoor
