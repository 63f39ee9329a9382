/-
  What one call of Arrives does.
-/
import Derived.Test.YtkalonhalhdlaaaDoorKTick
import Derived.Deep.Cut
import Derived.Deep.CutRange
namespace Go.Proofs.YtkalonhalhdlaaaDoor
open Go.RowKit

theorem pkB_mi (c : Nat → Cfg) : pkB.mi c 38 :=
  ⟨pkB_inv c, fun i _ => ⟨fun h => by simp [pkB, gnB] at h, fun _ _ => by simp [pkB, gnB], by simp [pkB, gnB], by simp [pkB, gnB]⟩, fun i _ => .inl fun _ => rfl, by simp [Pk.pot, Pk.pot1, pkB, gnB, sp, rp, wtL]⟩
/-- Behind r moves. -/
def ArrInv (B : Fen) (w : World) (kb : Nat) (b : Nat → Nat) (c : Nat → Cfg) (r : Nat) (wr : World) : Prop := ∃ (k : Lk) (p : Pk), k.at B w kb b c wr ∧ k.fine r ∧ Sim c k p ∧ p.mi c (38 + 10 * r) ∧ k.still
/-- j stations are not busy, and what came to them is taken. -/
def FreeInv (B : Fen) (w : World) (kb : Nat) (b : Nat → Nat) (c : Nat → Cfg) (j : Nat) (wr : World) : Prop := ∃ (k : Lk) (p : Pk), k.at B w kb b c wr ∧ k.fine (200 + 2 * j) ∧ Sim c k p ∧ p.mi c (2038 + 2 * j) ∧ k.still ∧ ∀ i, i < j → (p.n i).free
/-- Ahead of round r. -/
def RoundInv (B : Fen) (w : World) (kb : Nat) (b : Nat → Nat) (c : Nat → Cfg) (r : Nat) (wr : World) : Prop := ∃ (k : Lk) (p : Pk), k.at B w kb b c wr ∧ k.fine 300 ∧ Sim c k p ∧ p.ready c ∧ k.still ∧ (0 < r → p.done ∧ ∀ i, i < 2 → k.l i = [])

theorem FreeInv.next {B : Fen} {w : World} {kb : Nat} {b : Nat → Nat} {c : Nat → Cfg} {k : Lk} {p : Pk} {j : Nat} {w4 : World} (hj : j < 2) (hf : k.fine (200 + 2 * j)) (hs : Sim c k p) (hm : p.mi c (2038 + 2 * j)) (hst : k.still) (hfr : ∀ i, i < j → (p.n i).free) (h4 : ((k.busy c j false).take c j).look.at B w kb b c w4) :
    (k.busy c j false).takeOk j = true ∧ FreeInv B w kb b c (j + 1) w4 := by
  have s1 : Sim c (k.busy c j false) (p.busy c j false) := hs.step hj (busy_r (hs.rel j hj) false) rfl
  have m1 := hm.busy hj false
  obtain ⟨t1, s2⟩ := s1.take m1.inv hj
  have m2 := m1.take hj
  refine ⟨t1, _, _, h4, ?_, s2.look.1, m2, Lk.look_still, fun i hi => ?_⟩
  · have := (Lk.fine_two (c := c) (kd := 10) (i := j) (on := false) (kd' := 8) (i' := j) (on' := false) hf hst).2.2
    exact this
  · by_cases e : i = j
    · subst e
      refine ⟨?_, ?_⟩
      · show (upd (p.busy c i false).n i _ i).busy = false
        rw [upd_same]
        show ((p.busy c i false).n i).busy = false
        show (upd p.n i _ i).busy = false
        rw [upd_same]
        rfl
      · show (upd (p.busy c i false).n i _ i).came = []
        rw [upd_same]
        rfl
    · have : (((p.busy c j false).take c j).n i) = p.n i := by
        show upd (upd p.n j _) j _ i = p.n i
        rw [upd_other _ _ e, upd_other _ _ e]
      rw [this]
      exact hfr i (by omega)

set_option maxHeartbeats 4000000 in
set_option maxRecDepth 100000 in
theorem arrives_any (x : Raw) (hx : x.fits) (pm : Option Addr) (nm cpm : Nat) (w : World) (hC : Ctl w) (hw : 0 < w.heap.size) (hm : MovesIn w w.heap.size pm nm) (_hnm : nm ≤ maxLen) :
    Calls Tryd.prog 7 #[x.val, .slice pm nm cpm] w fun e w' => e = .returned (.bool true) ∧ Below w.heap.size w w' := by
  have hm63 : maxLen = 9223372036854775807 := by unfold maxLen; omega
  rw [hm63] at _hnm
  clear hm63
  simp only [Raw.val]
  have hb0 : Below w.heap.size w (w.alloc (.cells #[.bool x.wide, .int .i64 x.win, .int .i64 x.tim, .int .i64 x.tri, .int .i64 x.room] 33)) := (Below.refl _ w).alloc (Nat.le_refl _) _
  have k1 := begun_any x hx (w.alloc (.cells #[.bool x.wide, .int .i64 x.win, .int .i64 x.tim, .int .i64 x.tri, .int .i64 x.room] 33)) (hC.below hb0 hw) (by rw [alloc1_s]; omega)
  simp only [Raw.val] at k1
  have K1 := hide k1
  have HM := hide hm
  have HB0 := hide hb0
  clear k1 hC hm hb0
  go_enter Tryd.func7, Tryd.ntmps7
  go_wp2_with fail
  refine (unhide K1).mono ?_
  rintro e w1 ⟨kb, b, rfl, hlk⟩
  clear K1
  have hb1 : Below (w.heap.size + 1) (w.alloc (.cells #[.bool x.wide, .int .i64 x.win, .int .i64 x.tim, .int .i64 x.tri, .int .i64 x.room] 33)) w1 := by
    obtain ⟨_, _, _, _, _, h3⟩ := hlk
    have := h3.below
    rw [alloc1_s] at this
    exact this
  have hxb : w1.heap[w.heap.size]? = some (.cells #[.bool x.wide, .int .i64 x.win, .int .i64 x.tim, .int .i64 x.tri, .int .i64 x.room] 33 (0, 0)) := by
    rw [hb1.block w.heap.size (by omega)]
    exact alloc1_a w _
  have y0 : w1.cell? ⟨w.heap.size, 0, none⟩ = some (.bool x.wide) := by rw [Lib.cell_of_heap hxb]; rfl
  have y1 : w1.cell? ⟨w.heap.size, 1, none⟩ = some (.int .i64 x.win) := by rw [Lib.cell_of_heap hxb]; rfl
  have y2 : w1.cell? ⟨w.heap.size, 2, none⟩ = some (.int .i64 x.tim) := by rw [Lib.cell_of_heap hxb]; rfl
  have y3 : w1.cell? ⟨w.heap.size, 3, none⟩ = some (.int .i64 x.tri) := by rw [Lib.cell_of_heap hxb]; rfl
  have y4 : w1.cell? ⟨w.heap.size, 4, none⟩ = some (.int .i64 x.room) := by rw [Lib.cell_of_heap hxb]; rfl
  have k2 := fun V => config_any x hx 1 V
  simp only [Raw.val, show ((1 : Nat) : Int) = 1 from rfl] at k2
  have HL := hide hlk
  have HB1 := hide hb1
  clear hlk hb1 hxb
  go_wp2_with fail
  refine (k2 _).mono ?_
  rintro e w2 ⟨rfl, hb2⟩
  clear k2 y0 y1 y2 y3 y4
  have hs1 : w.heap.size + 1 ≤ w1.heap.size := by have := (unhide HB1).size; rw [alloc1_s] at this; exact this
  have hs2 := hb2.size
  obtain ⟨W3, hW3⟩ : ∃ W3, W3 = w2.alloc (.cells #[.int .i64 (x.cfg 1).m, .int .i64 (x.cfg 1).win, .int .i64 (x.cfg 1).tim, .int .i64 (x.cfg 1).tri, .int .i64 (x.cfg 1).room, .int .i64 (x.cfg 1).addr] 39) := ⟨_, rfl⟩
  have hb3 : Below w1.heap.size w1 W3 := by rw [hW3]; exact hb2.alloc hs2 _
  have hs3 : W3.heap.size = w2.heap.size + 1 := by rw [hW3]; exact alloc1_s _ _
  have hcb : W3.heap[w2.heap.size]? = some (.cells #[.int .i64 (x.cfg 1).m, .int .i64 (x.cfg 1).win, .int .i64 (x.cfg 1).tim, .int .i64 (x.cfg 1).tri, .int .i64 (x.cfg 1).room, .int .i64 (x.cfg 1).addr] 39 (0, 0)) := by rw [hW3]; exact alloc1_a _ _
  have hfen := (unhide HL).fence hb3 w2.heap.size hs2
  rw [alloc1_s] at hfen
  have hall : Below (w.heap.size) w W3 := ((unhide HB0).trans ((unhide HB1).mono (by omega))).trans (hb3.mono (by omega))
  have hmv : MovesIn W3 (w.heap.size + 1) pm nm := ((unhide HM).below hall).mono (by omega)
  have HT := hide (cfgs_two x)
  obtain ⟨B, hBd⟩ : ∃ B, B = fen (w.heap.size + 1) w2.heap.size := ⟨_, rfl⟩
  have hBlo : B.lo = w.heap.size + 1 := by rw [hBd]; rfl
  have hBx : B.X w2.heap.size := by rw [hBd]; exact rfl
  have htop : B.top ≤ W3.heap.size := by rw [hBd]; unfold Fen.top; show max (w.heap.size + 1) (w2.heap.size + 1) ≤ _; omega
  rw [← hBd] at hfen
  have HI : Hid (ArrInv B W3 kb b (cfgs x) 0 W3) := hide ⟨lkB, pkB, hfen, lkB_fine, lkB_sim _, pkB_mi _, fun _ _ => ⟨rfl, rfl⟩⟩
  have HALL := hide hall
  have HMV := hide hmv
  have HCB := hide hcb
  clear hb3 hfen hall hmv hcb HM HB0 HB1 HL hBd
  go_wp2
  rw [← hW3]
  clear hW3
  go_loopg [7] 200 (fun g i wr => ∃ r : Nat, r + g = 200 ∧ i = .int .i64 r ∧ ArrInv B W3 kb b (cfgs x) r wr)
  case atStart => exact ⟨0, rfl, rfl, unhide HI⟩
  case round =>
    obtain ⟨r, hrk, rfl, k, p, hk, hf, hsim, hmi, hst⟩ := hrel
    clear HI
    have hbel : Bel B W3 wr := by obtain ⟨_, _, _, _, _, h3⟩ := hk; exact h3
    have hgo : (r < nm ∧ r < 200) ∨ ¬ (r < nm ∧ r < 200) := Classical.em _
    rcases hgo with ⟨h1, h2⟩ | hno
    · obtain ⟨bm, om, mx, my, mz, rfl, hbm, v1, v2, v3, g1, g2, g3⟩ := (unhide HMV) r h1
      have hbl := hbel.below
      rw [hBlo] at hbl
      have m1 : wr.cell? ⟨bm, om + r * 3, none⟩ = some (.int .i64 mx) := by rw [hbl.cell (p := ⟨bm, om + r * 3, none⟩) hbm]; exact v1
      have m2 : wr.cell? ⟨bm, om + r * 3 + 1, none⟩ = some (.int .i64 my) := by rw [hbl.cell (p := ⟨bm, om + r * 3 + 1, none⟩) hbm]; exact v2
      have m3 : wr.cell? ⟨bm, om + r * 3 + 2, none⟩ = some (.int .i64 mz) := by rw [hbl.cell (p := ⟨bm, om + r * 3 + 2, none⟩) hbm]; exact v3
      clear v1 v2 v3 hbl
      have hfm := Lk.fine_move (c := cfgs x) (kd := pickN mx 11) (i := pickN my 2) (on := pickN mz 2 == 1) hf
      have ka := acts_link hk htop (Lk.small_of hf (by omega)) mx my mz g1 g2 g3 (fun j hj => by have := hfm.2.1 j hj; omega)
      have hmy : pickN my 2 < 2 := by have := pickN_lt my 2 (by omega); omega
      obtain ⟨o1, o2⟩ := hsim.moved hmi.inv (unhide HT) hmy (fun j hj => (hst j hj).1) (pickN mx 11) (pickN mz 2 == 1)
      rw [o1] at ka
      have o3 : (Lk.look (Lk.move (cfgs x) k (pickN mx 11) (pickN my 2) (pickN mz 2 == 1))).en = true ∨ ∃ q, Sim (cfgs x) (Lk.look (Lk.move (cfgs x) k (pickN mx 11) (pickN my 2) (pickN mz 2 == 1))) q ∧ q.mi (cfgs x) (38 + 10 * r + 10) := o2.imp id (fun ⟨q, q1, q2, _⟩ => ⟨q, q2, hmi.moved (unhide HT) hmy q1⟩)
      have hst4 : ((k.move (cfgs x) (pickN mx 11) (pickN my 2) (pickN mz 2 == 1)).look).still := Lk.look_still
      have HF4 := hide hfm.1
      have HST4 := hide hst4
      have HO := hide o3
      have KA := hide ka
      have h1i : (r : Int) < (nm : Int) := by omega
      have h2i : (r : Int) < 200 := by omega
      clear ka hfm hk hf hbel hst4 hst hsim hmi o1 o2 o3
      generalize (k.move (cfgs x) (pickN mx 11) (pickN my 2) (pickN mz 2 == 1)).look = k4 at *
      go_wp2_with fail
      refine (unhide KA).mono ?_
      rintro e w4 ⟨rfl, hk4⟩
      clear KA m1 m2 m3
      have cE := hk4.cellE
      have HEND : Hid (Below w.heap.size w w4) := hide ((unhide HALL).trans (by obtain ⟨_, _, _, _, _, h3⟩ := hk4; exact h3.below.mono (by rw [hBlo]; omega)))
      cases hen : k4.en with
      | true =>
        rw [hen] at cE
        clear HO HF4 HST4 hk4 hen HMV HCB
        go_wp2
        go_ret
        exact ⟨rfl, unhide HEND⟩
      | false =>
        rw [hen] at cE
        have HR : Hid (ArrInv B W3 kb b (cfgs x) (r + 1) w4) := hide (by
          rcases unhide HO with o | ⟨q, q1, q2⟩
          · rw [hen] at o; cases o
          · exact ⟨k4, q, hk4, unhide HF4, q1, by rw [show 38 + 10 * (r + 1) = 38 + 10 * r + 10 by omega]; exact q2, unhide HST4⟩)
        clear HO HF4 HST4 hk4 hen HMV HEND HCB
        go_wp2
        go_roundg (gk - 1)
        case measure => omega
        case rel => exact ⟨r + 1, by omega, by go_num, unhide HR⟩
    · clear HMV
      have HF : Hid (FreeInv B W3 kb b (cfgs x) 0 wr) := hide ⟨k, p, hk, Lk.fine_mono hf (by omega), hsim, hmi.mono (by omega), hst, fun i hi => by omega⟩
      clear hk hf hsim hmi hst hbel
      go_upto_region 6 with fail
      go_cut [36] from 29 to 50 (fun s36 wx => s36 = .bool false ∧ wx = wr)
      case first =>
        by_cases h1 : r < nm
        · have h2i : ¬ ((r : Int) < 200) := by omega
          have h1i : (r : Int) < (nm : Int) := by omega
          go_wp2
          go_meet
          case rel => exact ⟨rfl, rfl⟩
        · have h1i : ¬ ((r : Int) < (nm : Int)) := by omega
          go_wp2
          go_meet
          case rel => exact ⟨rfl, rfl⟩
      case rest =>
        obtain ⟨rfl, rfl⟩ := hcut
        go_wp2
        go_loopg [9] 2 (fun g i wx => ∃ j : Nat, j + g = 2 ∧ i = .int .i64 j ∧ FreeInv B W3 kb b (cfgs x) j wx)
        case atStart => exact ⟨0, rfl, rfl, unhide HF⟩
        case round =>
          obtain ⟨j, hjk, rfl, k5, p5, hk5, hf5, hs5, hm5, hst5, hfr5⟩ := hrel
          clear HF
          by_cases hj : j < 2
          · have hji : (j : Int) < 2 := by omega
            have hsm := Lk.small_of hf5 (by omega)
            have kb1 := busy_at hk5 htop hj false (hsm.out j hj)
            have hft := Lk.fine_two (c := cfgs x) (kd := 10) (i := j) (on := false) (kd' := 8) (i' := j) (on' := false) hf5 hst5
            have kb2 : ∀ W, (k5.busy (cfgs x) j false).at B W3 kb b (cfgs x) W → Calls Tryd.prog 28 #[.pointer (some ⟨kb, 0, none⟩), .int .i64 j] W fun e w' => e = .returned (.bool ((k5.busy (cfgs x) j false).takeOk j)) ∧ ((k5.busy (cfgs x) j false).take (cfgs x) j).at B W3 kb b (cfgs x) w' := by
              intro W hW
              refine takes_at hW htop j hj ?_ ?_ ?_
              · exact Nat.le_trans (hft.1.2.2 (1 - j) (by omega)) (by omega)
              · exact Nat.le_trans (hft.1.2.1 (1 - j) (by omega)) (by omega)
              · have := hft.1.1 j hj
                have : ((k5.busy (cfgs x) j false).s j).out.length ≤ 18 := this
                omega
            have kb3 : ∀ W, ((k5.busy (cfgs x) j false).take (cfgs x) j).at B W3 kb b (cfgs x) W → Calls Tryd.prog 26 #[.pointer (some ⟨kb, 0, none⟩)] W fun e w' => e = .returned (.bool true) ∧ ((k5.busy (cfgs x) j false).take (cfgs x) j).look.at B W3 kb b (cfgs x) w' := by
              intro W hW
              refine looks_at hW htop (fun i hi => ?_)
              exact Nat.le_trans (hft.2.1 i hi) (by omega)
            have cS := hk5.cellS hj
            have hN : ∀ W, ((k5.busy (cfgs x) j false).take (cfgs x) j).look.at B W3 kb b (cfgs x) W → (k5.busy (cfgs x) j false).takeOk j = true ∧ FreeInv B W3 kb b (cfgs x) (j + 1) W := fun W hW => FreeInv.next hj hf5 hs5 hm5 hst5 hfr5 hW
            have KB1 := hide kb1
            have KB2 := hide kb2
            have KB3 := hide kb3
            have HN := hide hN
            clear kb1 kb2 kb3 hft hsm hk5 hf5 hs5 hm5 hst5 hfr5 hN
            go_wp2_with fail
            refine (unhide KB1).mono ?_
            rintro e w6 ⟨rfl, h6⟩
            clear KB1
            have KC2 := hide (unhide KB2 w6 h6)
            clear KB2 h6
            go_wp2_with fail
            refine (unhide KC2).mono ?_
            rintro e w7 ⟨rfl, h7⟩
            clear KC2
            have KC3 := hide (unhide KB3 w7 h7)
            clear KB3 h7
            go_wp2_with fail
            refine (unhide KC3).mono ?_
            rintro e w8 ⟨rfl, h8⟩
            clear KC3
            obtain ⟨hto, hfi⟩ := unhide HN w8 h8
            rw [hto]
            have HFI := hide hfi
            clear HN h8 hto hfi
            go_wp2
            go_roundg (gk - 1)
            case measure => omega
            case rel => exact ⟨j + 1, by omega, by go_num, unhide HFI⟩
          · have hji : ¬ ((j : Int) < 2) := by omega
            have ej : j = 2 := by omega
            subst ej
            have hsm := Lk.small_of hf5 (by omega)
            have hrd : p5.ready (cfgs x) := ready_of (hm5.mono (by omega)) hfr5
            have hqs : ∀ i, i < 2 → (k5.s i).queue.length ≤ 20 := fun i hi => by
              have h1 := (hrd.si i hi).q20
              rw [(hs5.rel i hi).gs.q, List.length_drop]
              omega
            have kv0 := view_at hk5 htop (show 0 < 2 by omega)
            have kv1 : ∀ W, k5.at B W3 kb b (cfgs x) W → _ := fun W hW => view_at (i := 1) hW htop (by omega)
            have cS0 := hk5.cellS (show 0 < 2 by omega)
            have hlt := hk5.lt
            unfold viewV at kv0 kv1
            have hq0 := hqs 0 (by omega)
            have hq1 := hqs 1 (by omega)
            have HRD := hide hrd
            have HS5 := hide hs5
            have HF5 := hide hf5
            have HST5 := hide hst5
            have HK5 := hide hk5
            clear hrd hs5 hf5 hst5 hk5 hm5 hfr5 hsm hqs
            generalize (k5.s 0).state = a0 at *
            generalize (k5.s 0).vs = a1 at *
            generalize (k5.s 0).va = a2 at *
            generalize (k5.s 0).vr = a3 at *
            generalize (k5.s 0).timer = a4 at *
            generalize (k5.s 0).tries = a5 at *
            generalize (k5.s 0).polling = a6 at *
            generalize (k5.s 0).peer = a7 at *
            generalize (k5.s 0).busy = a8 at *
            generalize (k5.s 0).came.length = a10 at *
            generalize (k5.s 1).state = b0 at *
            generalize (k5.s 1).vs = b1 at *
            generalize (k5.s 1).va = b2 at *
            generalize (k5.s 1).vr = b3 at *
            generalize (k5.s 1).timer = b4 at *
            generalize (k5.s 1).tries = b5 at *
            generalize (k5.s 1).polling = b6 at *
            generalize (k5.s 1).peer = b7 at *
            generalize (k5.s 1).busy = b8 at *
            generalize (k5.s 1).came.length = b10 at *
            generalize hQ0 : (k5.s 0).queue.length = q0 at *
            generalize hQ1 : (k5.s 1).queue.length = q1 at *
            have KV0 := hide kv0
            have KV1 := hide kv1
            clear kv0 kv1
            go_wp2_with fail
            refine (unhide KV0).mono ?_
            rintro e w6 ⟨rfl, hb6, hk6⟩
            clear KV0 cS0
            have hz6 := hb6.size
            obtain ⟨W6, hW6⟩ : ∃ W6, W6 = w6.alloc (.cells #[.int .i64 a0, .int .i64 a1, .int .i64 a2, .int .i64 a3, .int .i64 a4, .int .i64 a5, .bool a6, .bool a7, .bool a8, .int .i64 q0, .int .i64 a10] 54) := ⟨_, rfl⟩
            have hs6 : W6.heap.size = w6.heap.size + 1 := by rw [hW6]; exact alloc1_s _ _
            have hv6 : W6.heap[w6.heap.size]? = some (.cells #[.int .i64 a0, .int .i64 a1, .int .i64 a2, .int .i64 a3, .int .i64 a4, .int .i64 a5, .bool a6, .bool a7, .bool a8, .int .i64 q0, .int .i64 a10] 54 (0, 0)) := by rw [hW6]; exact alloc1_a _ _
            have hbW6 : Below w6.heap.size w6 W6 := by rw [hW6]; exact (Below.refl _ w6).alloc (Nat.le_refl _) _
            have hbl6 : Bel B W3 w6 := by obtain ⟨_, _, _, _, _, h3⟩ := hk6; exact h3
            have hk6' : k5.at B W3 kb b (cfgs x) W6 := hk6.later (Nat.le_trans htop hbl6.size) hbW6
            have cS1 := hk6'.cellS (show 1 < 2 by omega)
            have hlt6 := hk6'.lt
            have KC1 := hide (unhide KV1 W6 hk6')
            clear KV1
            have HK6 := hide hk6
            clear hk6 hk6'
            subst hW6
            go_wp2_with fail
            refine (unhide KC1).mono ?_
            rintro e w7 ⟨rfl, hb7, hk7⟩
            clear KC1 cS1
            generalize w6.alloc (.cells #[.int .i64 a0, .int .i64 a1, .int .i64 a2, .int .i64 a3, .int .i64 a4, .int .i64 a5, .bool a6, .bool a7, .bool a8, .int .i64 q0, .int .i64 a10] 54) = W6 at *
            have hz7 := hb7.size
            obtain ⟨W7, hW7⟩ : ∃ W7, W7 = w7.alloc (.cells #[.int .i64 b0, .int .i64 b1, .int .i64 b2, .int .i64 b3, .int .i64 b4, .int .i64 b5, .bool b6, .bool b7, .bool b8, .int .i64 q1, .int .i64 b10] 54) := ⟨_, rfl⟩
            have hs7 : W7.heap.size = w7.heap.size + 1 := by rw [hW7]; exact alloc1_s _ _
            have hv7 : W7.heap[w7.heap.size]? = some (.cells #[.int .i64 b0, .int .i64 b1, .int .i64 b2, .int .i64 b3, .int .i64 b4, .int .i64 b5, .bool b6, .bool b7, .bool b8, .int .i64 q1, .int .i64 b10] 54 (0, 0)) := by rw [hW7]; exact alloc1_a _ _
            have hbW7 : Below w7.heap.size w7 W7 := by rw [hW7]; exact (Below.refl _ w7).alloc (Nat.le_refl _) _
            have hb67 : Below w6.heap.size w6 w7 := hbW6.trans (hb7.mono (by omega))
            have hb6W7 : Below w6.heap.size w6 W7 := hb67.trans (hbW7.mono hb67.size)
            have hbWW7 : Below W6.heap.size W6 W7 := hb7.trans (hbW7.mono hz7)
            have hv6' : W7.heap[w6.heap.size]? = some (.cells #[.int .i64 a0, .int .i64 a1, .int .i64 a2, .int .i64 a3, .int .i64 a4, .int .i64 a5, .bool a6, .bool a7, .bool a8, .int .i64 q0, .int .i64 a10] 54 (0, 0)) := by
              rw [(show Keeps (fun _ => False) W6 W7 from Keeps.of hbWW7).block w6.heap.size (by omega) id]; exact hv6
            have hxc : w2.heap.size < w6.heap.size := by have := hbl6.size; omega
            have hcb7 : W7.heap[w2.heap.size]? = some (.cells #[.int .i64 (x.cfg 1).m, .int .i64 (x.cfg 1).win, .int .i64 (x.cfg 1).tim, .int .i64 (x.cfg 1).tri, .int .i64 (x.cfg 1).room, .int .i64 (x.cfg 1).addr] 39 (0, 0)) := by
              rw [(show Keeps (fun _ => False) w6 W7 from Keeps.of hb6W7).block w2.heap.size hxc id, hbl6.ext _ hBx (by omega)]
              exact unhide HCB
            have hat7 : k5.at ((B.add w6.heap.size).add w7.heap.size) W7 kb b (cfgs x) W7 := ((unhide HK6).fenced hb67 w6.heap.size (Nat.le_refl _)).fenced hbW7 w7.heap.size (Nat.le_refl _)
            have hall7 : Below w.heap.size w W7 := ((unhide HALL).trans (hbl6.below.mono (by rw [hBlo]; omega))).trans (hb6W7.mono (by have := (unhide HALL).size; have := hbl6.size; omega))
            obtain ⟨B2, hB2⟩ : ∃ B2, B2 = (B.add w6.heap.size).add w7.heap.size := ⟨_, rfl⟩
            have hz67 := hb67.size
            have htop2 : B2.top ≤ W7.heap.size := by
              rw [hB2]
              exact Fen.add_top _ _ _ (Fen.add_top _ _ _ (Nat.le_trans htop (by have := hbl6.size; omega)) (by omega)) (by omega)
            have hX0 : B2.X w2.heap.size := by rw [hB2]; exact .inl (.inl hBx)
            have hX1 : B2.X w6.heap.size := by rw [hB2]; exact .inl (.inr rfl)
            have hX2 : B2.X w7.heap.size := by rw [hB2]; exact .inr rfl
            have hlo2 : B2.lo = w.heap.size + 1 := by rw [hB2]; exact hBlo
            rw [← hB2] at hat7
            have hkb7 : kb < w6.heap.size := Nat.lt_of_lt_of_le hlt hz6
            clear hB2 hb6 hb7 hbW6 hbW7 hb67 hb6W7 hbWW7 hv6 hbl6 hk7 HK6 HK5 HCB HALL hlt6 hlt
            have HA7 := hide hat7
            have HALL7 := hide hall7
            have HV6 := hide hv6'
            have HV7 := hide hv7
            have HCB7 := hide hcb7
            clear hat7 hall7 hv6' hv7 hcb7
            have hne : ∀ i, i < 2 → (k5.n i).length ≤ 300 := fun i hi => Nat.le_trans ((unhide HF5).n i hi) (by omega)
            have HR0 : Hid (RoundInv B2 W7 kb b (cfgs x) 0 W7) := hide ⟨k5, p5, unhide HA7, Lk.fine_mono (unhide HF5) (by omega), unhide HS5, unhide HRD, unhide HST5, fun h => by omega⟩
            clear HA7 HF5 HS5 HRD HST5 hne
            go_wp2
            rw [← hW7]
            clear hW7
            go_loopg [17] (q0 + q1 + 3) (fun g i wx => ∃ r3 : Nat, r3 + g = q0 + q1 + 3 ∧ i = .int .i64 r3 ∧ RoundInv B2 W7 kb b (cfgs x) r3 wx)
            case atStart => exact ⟨0, by omega, rfl, unhide HR0⟩
            case round =>
              obtain ⟨r3, hr3, rfl, k8, p8, hk8, hf8, hs8, hrd8, hst8, hdn8⟩ := hrel
              clear HR0
              have hbl8 : Bel B2 W7 wr := by obtain ⟨_, _, _, _, _, h3⟩ := hk8; exact h3
              have hcv0 : wr.cell? ⟨w6.heap.size, 9, none⟩ = some (.int .i64 q0) := by rw [Lib.cell_of_heap ((hbl8.ext _ hX1 (by omega)).trans (unhide HV6))]; rfl
              have hcv1 : wr.cell? ⟨w7.heap.size, 9, none⟩ = some (.int .i64 q1) := by rw [Lib.cell_of_heap ((hbl8.ext _ hX2 (by omega)).trans (unhide HV7))]; rfl
              by_cases hlt3 : r3 < q0 + q1 + 3
              · have hlt3i : (r3 : Int) < (q0 : Int) + q1 + 3 := by omega
                have HT8 : Hid (∃ kt : Lk, kt.at B2 W7 kb b (cfgs x) wr ∧ kt.fineT 300 (2 * 0) ∧ TickInv (cfgs x) p8 0 kt) := hide ⟨k8, hk8, Lk.fineT_of hf8 hst8, .inr ⟨p8, hs8, hrd8.inv, rfl, fun i _ => Ticked.zero _ _ _⟩⟩
                have HRD8 := hide hrd8
                have HGV : Hid (∀ i, i < 2 → (p8.n i).gv.length ≤ 300) := hide (fun i hi => by rw [hs8.gv i hi, List.length_map]; exact hf8.n i hi)
                have htmx : (x.cfg 1).tim ≤ 100 := (cfgs_ok x (show 0 < 2 by omega)).tim100
                clear hk8 hf8 hs8 hrd8 hst8 hdn8 hbl8
                go_wp2
                clear hcv0 hcv1
                go_loopg [18] (x.cfg 1).tim (fun g i wx => ∃ t : Nat, t + g = (x.cfg 1).tim ∧ i = .int .i64 t ∧ ∃ kt : Lk, kt.at B2 W7 kb b (cfgs x) wx ∧ kt.fineT 300 (2 * t) ∧ TickInv (cfgs x) p8 t kt)
                case atStart => exact ⟨0, by omega, rfl, unhide HT8⟩
                case round =>
                  obtain ⟨t, htk, rfl, kt, hkt, hft, hti⟩ := hrel
                  clear HT8
                  have hbl9 : Bel B2 W7 wr := by obtain ⟨_, _, _, _, _, h3⟩ := hkt; exact h3
                  have hct : wr.cell? ⟨w2.heap.size, 2, none⟩ = some (.int .i64 (x.cfg 1).tim) := by rw [Lib.cell_of_heap ((hbl9.ext _ hX0 (by omega)).trans (unhide HCB7))]; rfl
                  by_cases htl : t < (x.cfg 1).tim
                  · have htli : (t : Int) < ((x.cfg 1).tim : Int) := by omega
                    have o0 := hft.out 0 (by omega)
                    have o1 := (Lk.fineT_tick (c := cfgs x) (i := 0) hft).out 1 (by omega)
                    have v0 := hft.ev 0 (by omega)
                    have v1 := (Lk.fineT_tick (c := cfgs x) (i := 0) hft).ev 1 (by omega)
                    have kt0 := tick_at hkt htop2 (show 0 < 2 by omega) (by omega) (by omega)
                    have kt1 : ∀ W, (kt.tick (cfgs x) 0).at B2 W7 kb b (cfgs x) W → (W.cell? ⟨kb, 1, none⟩ = some (.pointer (some ⟨b 1, 0, none⟩)) ∧ Calls Tryd.prog 21 #[.pointer (some ⟨b 1, 0, none⟩)] W fun e w' => e = .returned (.int .i64 0) ∧ ((kt.tick (cfgs x) 0).tick (cfgs x) 1).at B2 W7 kb b (cfgs x) w') := fun W hW => ⟨hW.cellS (show 1 < 2 by omega), tick_at hW htop2 (show 1 < 2 by omega) (by omega) (by omega)⟩
                    have cS0 := hkt.cellS (show 0 < 2 by omega)
                    have hnx : ((kt.tick (cfgs x) 0).tick (cfgs x) 1).fineT 300 (2 * (t + 1)) ∧ TickInv (cfgs x) p8 (t + 1) ((kt.tick (cfgs x) 0).tick (cfgs x) 1) := ⟨by
                      have := Lk.fineT_tick (c := cfgs x) (i := 1) (Lk.fineT_tick (c := cfgs x) (i := 0) hft)
                      rw [show 2 * (t + 1) = 2 * t + 1 + 1 by omega]
                      exact this, hti.more (fun i hi => htl) (fun i hi => ((unhide HRD8).si i hi).tmx)⟩
                    have KT0 := hide kt0
                    have KT1 := hide kt1
                    have HNX := hide hnx
                    clear kt0 kt1 hnx o0 o1 v0 v1 hkt hft hti hbl9
                    go_wp2_with fail
                    refine (unhide KT0).mono ?_
                    rintro e w9 ⟨rfl, h9⟩
                    clear KT0 cS0 hct
                    obtain ⟨cS1, kc1⟩ := unhide KT1 w9 h9
                    have KC1 := hide kc1
                    clear kc1 KT1 h9
                    go_wp2_with fail
                    refine (unhide KC1).mono ?_
                    rintro e w10 ⟨rfl, h10⟩
                    have HR : Hid (∃ kt' : Lk, kt'.at B2 W7 kb b (cfgs x) w10 ∧ kt'.fineT 300 (2 * (t + 1)) ∧ TickInv (cfgs x) p8 (t + 1) kt') := hide ⟨_, h10, (unhide HNX).1, (unhide HNX).2⟩
                    clear KC1 cS1 h10 HNX
                    go_wp2
                    go_roundg (gk - 1)
                    case measure => omega
                    case rel => exact ⟨t + 1, by omega, by go_num, unhide HR⟩
                  · have htli : ¬ (t : Int) < ((x.cfg 1).tim : Int) := by omega
                    have et : t = (x.cfg 1).tim := by omega
                    have hro := round_ok (unhide HRD8) (unhide HT) (k := kt) ⟨(x.cfg 1).tim, fun i hi => rfl, by rw [← et]; exact hti⟩
                    obtain ⟨hfl, hll⟩ := Lk.fineT_look hft
                    have klo := looks_at hkt htop2 (fun i hi => Nat.le_trans (hll i hi) (by omega))
                    have HFL := hide hfl
                    have HRO := hide hro
                    have KLO := hide klo
                    clear klo hll hft hti hkt hbl9 hfl hro
                    go_wp2_with fail
                    refine (unhide KLO).mono ?_
                    rintro e w9 ⟨rfl, h9⟩
                    clear KLO hct
                    have cE := h9.cellE
                    have HEND : Hid (Below w.heap.size w w9) := hide ((unhide HALL7).trans (by obtain ⟨_, _, _, _, _, h3⟩ := h9; exact h3.below.mono (by rw [hlo2]; omega)))
                    rcases unhide HRO with hen | ⟨hen, k', p', f1, f2, f3, f4, f5, f6, f7⟩
                    · rw [hen] at cE
                      clear HRO HFL h9
                      go_wp2
                      go_ret
                      exact ⟨rfl, unhide HEND⟩
                    · rw [hen] at cE
                      have kfl := flows_link h9 htop2 (unhide HFL) Lk.look_still (by omega)
                      rw [f1] at kfl
                      have hfk : k'.fine 300 := by
                        have q := flowsL_fine (c := cfgs x) 5000 (unhide HFL) Lk.look_still
                        rw [f1] at q
                        refine Lk.fine_new (k := k') q f6 (fun i hi => ?_)
                        have e1 := f2.gv i hi
                        have e2 := congrArg List.length e1
                        rw [List.length_map, f7 i hi] at e2
                        have := unhide HGV i hi
                        omega
                      have HNX : Hid (∀ W, k'.at B2 W7 kb b (cfgs x) W → RoundInv B2 W7 kb b (cfgs x) (r3 + 1) W) := hide (fun W hW => ⟨k', p', hW, hfk, f2, f3, f4, fun _ => ⟨f5, f6⟩⟩)
                      have hen' := f2.en
                      have KFL := hide kfl
                      clear kfl hfk f1 f2 f3 f4 f5 f6 f7 HRO HFL h9 HEND
                      go_wp2_with fail
                      refine (unhide KFL).mono ?_
                      rintro e w10 ⟨rfl, h10⟩
                      clear KFL cE
                      have cE2 := h10.cellE
                      rw [hen'] at cE2
                      have HR := hide (unhide HNX w10 h10)
                      clear HNX h10
                      go_wp2
                      go_roundg (q0 + q1 + 2 - r3)
                      case measure => omega
                      case rel => exact ⟨r3 + 1, by omega, by go_num, unhide HR⟩
              · have hlt3i : ¬ ((r3 : Int) < (q0 : Int) + q1 + 3) := by omega
                obtain ⟨hdn, hemp⟩ := hdn8 (by omega)
                have hqz : ∀ i, i < 2 → (k8.s i).queue.length = 0 := fun i hi => by
                  have h1 := (hdn i hi).1
                  rw [(hs8.rel i hi).gs.q, List.length_drop]
                  omega
                have htz : ∀ i, i < 2 → k8.t i = (k8.n i).length := fun i hi => by
                  rw [hs8.t i hi, (hdn i hi).2, hs8.gv i hi, List.length_map]
                have kv0 := view_at hk8 htop2 (show 0 < 2 by omega)
                have cS0 := hk8.cellS (show 0 < 2 by omega)
                have hbox : ∀ V, Below wr.heap.size wr V → V.heap[w6.heap.size]? = some (.cells #[.int .i64 a0, .int .i64 a1, .int .i64 a2, .int .i64 a3, .int .i64 a4, .int .i64 a5, .bool a6, .bool a7, .bool a8, .int .i64 q0, .int .i64 a10] 54 (0, 0)) ∧ V.heap[w7.heap.size]? = some (.cells #[.int .i64 b0, .int .i64 b1, .int .i64 b2, .int .i64 b3, .int .i64 b4, .int .i64 b5, .bool b6, .bool b7, .bool b8, .int .i64 q1, .int .i64 b10] 54 (0, 0)) := by
                  intro V hV
                  have hz := hbl8.size
                  exact ⟨by rw [(show Keeps (fun _ => False) wr V from Keeps.of hV).block w6.heap.size (by omega) id, hbl8.ext _ hX1 (by omega)]; exact unhide HV6, by rw [(show Keeps (fun _ => False) wr V from Keeps.of hV).block w7.heap.size (by omega) id, hbl8.ext _ hX2 (by omega)]; exact unhide HV7⟩
                have HBX := hide hbox
                have hz8 := hbl8.size
                have HEND : Hid (Below w.heap.size w wr) := hide ((unhide HALL7).trans (hbl8.below.mono (by rw [hlo2]; omega)))
                unfold viewV at kv0
                rw [hqz 0 (by omega)] at kv0
                have hq1z := hqz 1 (by omega)
                have t0 := htz 0 (by omega)
                have t1 := htz 1 (by omega)
                generalize (k8.s 0).state = d0 at *
                generalize (k8.s 0).vs = d1 at *
                generalize (k8.s 0).va = d2 at *
                generalize (k8.s 0).vr = d3 at *
                generalize (k8.s 0).timer = d4 at *
                generalize (k8.s 0).tries = d5 at *
                generalize (k8.s 0).polling = d6 at *
                generalize (k8.s 0).peer = d7 at *
                generalize (k8.s 0).busy = d8 at *
                generalize (k8.s 0).came.length = d10 at *
                have KV0 := hide kv0
                clear kv0 hbox hk8 hbl8 hdn8 hrd8 hs8 hf8 hst8 hdn hqz htz HALL7 HCB7 HV6 HV7
                go_wp2_with fail
                refine (unhide KV0).mono ?_
                rintro e w9 ⟨rfl, hb9, hk9⟩
                clear KV0 hcv0 hcv1 cS0
                obtain ⟨x6, x7⟩ := unhide HBX w9 hb9
                have hlt9 := hk9.lt
                have hz9 := hb9.size
                have e0 : w9.cell? ⟨w6.heap.size, 0, none⟩ = some (.int .i64 a0) := by rw [Lib.cell_of_heap x6]; rfl
                have e1 : w9.cell? ⟨w6.heap.size, 1, none⟩ = some (.int .i64 a1) := by rw [Lib.cell_of_heap x6]; rfl
                have e2 : w9.cell? ⟨w6.heap.size, 2, none⟩ = some (.int .i64 a2) := by rw [Lib.cell_of_heap x6]; rfl
                have e3 : w9.cell? ⟨w6.heap.size, 3, none⟩ = some (.int .i64 a3) := by rw [Lib.cell_of_heap x6]; rfl
                have e4 : w9.cell? ⟨w6.heap.size, 4, none⟩ = some (.int .i64 a4) := by rw [Lib.cell_of_heap x6]; rfl
                have e5 : w9.cell? ⟨w6.heap.size, 5, none⟩ = some (.int .i64 a5) := by rw [Lib.cell_of_heap x6]; rfl
                have e6 : w9.cell? ⟨w6.heap.size, 6, none⟩ = some (.bool a6) := by rw [Lib.cell_of_heap x6]; rfl
                have e7 : w9.cell? ⟨w6.heap.size, 7, none⟩ = some (.bool a7) := by rw [Lib.cell_of_heap x6]; rfl
                have e8 : w9.cell? ⟨w6.heap.size, 8, none⟩ = some (.bool a8) := by rw [Lib.cell_of_heap x6]; rfl
                have e9 : w9.cell? ⟨w6.heap.size, 9, none⟩ = some (.int .i64 q0) := by rw [Lib.cell_of_heap x6]; rfl
                have e10 : w9.cell? ⟨w6.heap.size, 10, none⟩ = some (.int .i64 a10) := by rw [Lib.cell_of_heap x6]; rfl
                have fz := fun j => Lib.frozen_of_heap x6 j
                have cS1 := hk9.cellS (show 1 < 2 by omega)
                have hne1 : ¬ kb = w6.heap.size := by omega
                have hne2 : ¬ w6.heap.size = kb := by omega
                go_wp2_with fail
                obtain ⟨W9, hW9⟩ : ∃ W9, W9 = (((((((((((w9.setCell ⟨w6.heap.size, 0, none⟩ (.int .i64 d0)).setCell ⟨w6.heap.size, 1, none⟩ (.int .i64 d1)).setCell ⟨w6.heap.size, 2, none⟩ (.int .i64 d2)).setCell ⟨w6.heap.size, 3, none⟩ (.int .i64 d3)).setCell ⟨w6.heap.size, 4, none⟩ (.int .i64 d4)).setCell ⟨w6.heap.size, 5, none⟩ (.int .i64 d5)).setCell ⟨w6.heap.size, 6, none⟩ (.bool d6)).setCell ⟨w6.heap.size, 7, none⟩ (.bool d7)).setCell ⟨w6.heap.size, 8, none⟩ (.bool d8)).setCell ⟨w6.heap.size, 9, none⟩ (.int .i64 0)).setCell ⟨w6.heap.size, 10, none⟩ (.int .i64 d10)) := ⟨_, rfl⟩
                rw [← hW9]
                have z10 := store11 x6 (.int .i64 d0) (.int .i64 d1) (.int .i64 d2) (.int .i64 d3) (.int .i64 d4) (.int .i64 d5) (.bool d6) (.bool d7) (.bool d8) (.int .i64 0) (.int .i64 d10)
                rw [← hW9] at z10
                have keep9 : Keeps (· = w6.heap.size) w9 W9 := by rw [hW9]; exact ((((((((((((Keeps.refl (· = w6.heap.size) w9).setB 0 _).setB 1 _).setB 2 _).setB 3 _).setB 4 _).setB 5 _).setB 6 _).setB 7 _).setB 8 _).setB 9 _).setB 10 _)
                clear hW9 e0 e1 e2 e3 e4 e5 e6 e7 e8 e9 e10 fz cS1
                have hat9 : k8.at (fen0 B2.lo) W9 kb b (cfgs x) W9 := hk9.beside hemp keep9 (fun y hy => by have e : y = w6.heap.size := hy; rw [e]; exact hX1) (fun e => by have e' : 0 = w6.heap.size := e; omega)
                have hz99 := keep9.size
                have hlo9 : w.heap.size + 1 ≤ w9.heap.size := by omega
                have kv1 := view_at hat9 (show (fen0 B2.lo).top ≤ W9.heap.size by unfold Fen.top; show max B2.lo 0 ≤ _; rw [hlo2]; omega) (show 1 < 2 by omega)
                unfold viewV at kv1
                rw [hq1z] at kv1
                clear hat9 hk9
                generalize (k8.s 1).state = f0 at *
                generalize (k8.s 1).vs = f1 at *
                generalize (k8.s 1).va = f2 at *
                generalize (k8.s 1).vr = f3 at *
                generalize (k8.s 1).timer = f4 at *
                generalize (k8.s 1).tries = f5 at *
                generalize (k8.s 1).polling = f6 at *
                generalize (k8.s 1).peer = f7 at *
                generalize (k8.s 1).busy = f8 at *
                generalize (k8.s 1).came.length = f10 at *
                have KV1 := hide kv1
                clear kv1
                refine (unhide KV1).mono ?_
                rintro e w10 ⟨rfl, hb10, hk10⟩
                clear KV1
                have hz10 := hb10.size
                have y6 := ((show Keeps (fun _ => False) W9 w10 from Keeps.of hb10).block w6.heap.size (by omega) id).trans z10
                have y7 : w10.heap[w7.heap.size]? = _ := ((show Keeps (fun _ => False) W9 w10 from Keeps.of hb10).block w7.heap.size (by omega) id).trans ((keep9.block w7.heap.size (by omega) (fun e => by have e' : w7.heap.size = w6.heap.size := e; omega)).trans x7)
                have g0 : w10.cell? ⟨w7.heap.size, 0, none⟩ = some (.int .i64 b0) := by rw [Lib.cell_of_heap y7]; rfl
                have g1 : w10.cell? ⟨w7.heap.size, 1, none⟩ = some (.int .i64 b1) := by rw [Lib.cell_of_heap y7]; rfl
                have g2 : w10.cell? ⟨w7.heap.size, 2, none⟩ = some (.int .i64 b2) := by rw [Lib.cell_of_heap y7]; rfl
                have g3 : w10.cell? ⟨w7.heap.size, 3, none⟩ = some (.int .i64 b3) := by rw [Lib.cell_of_heap y7]; rfl
                have g4 : w10.cell? ⟨w7.heap.size, 4, none⟩ = some (.int .i64 b4) := by rw [Lib.cell_of_heap y7]; rfl
                have g5 : w10.cell? ⟨w7.heap.size, 5, none⟩ = some (.int .i64 b5) := by rw [Lib.cell_of_heap y7]; rfl
                have g6 : w10.cell? ⟨w7.heap.size, 6, none⟩ = some (.bool b6) := by rw [Lib.cell_of_heap y7]; rfl
                have g7 : w10.cell? ⟨w7.heap.size, 7, none⟩ = some (.bool b7) := by rw [Lib.cell_of_heap y7]; rfl
                have g8 : w10.cell? ⟨w7.heap.size, 8, none⟩ = some (.bool b8) := by rw [Lib.cell_of_heap y7]; rfl
                have g9 : w10.cell? ⟨w7.heap.size, 9, none⟩ = some (.int .i64 q1) := by rw [Lib.cell_of_heap y7]; rfl
                have g10 : w10.cell? ⟨w7.heap.size, 10, none⟩ = some (.int .i64 b10) := by rw [Lib.cell_of_heap y7]; rfl
                have fz := fun j => Lib.frozen_of_heap y7 j
                have c9 : w10.cell? ⟨w6.heap.size, 9, none⟩ = some (.int .i64 0) := by rw [Lib.cell_of_heap y6]; rfl
                have cT0 : w10.cell? ⟨kb, 6, none⟩ = some (.int .i64 (k8.t 0)) := hk10.cellT (show 0 < 2 by omega)
                have cT1 : w10.cell? ⟨kb, 7, none⟩ = some (.int .i64 (k8.t 1)) := hk10.cellT (show 1 < 2 by omega)
                rw [t0] at cT0
                rw [t1] at cT1
                obtain ⟨pn0, cn0, cN0'⟩ := hk10.cellN (show 0 < 2 by omega)
                have cN0 : w10.cell? ⟨kb, 4, none⟩ = some (.slice pn0 (k8.n 0).length cn0) := cN0'
                obtain ⟨pn1, cn1, cN1'⟩ := hk10.cellN (show 1 < 2 by omega)
                have cN1 : w10.cell? ⟨kb, 5, none⟩ = some (.slice pn1 (k8.n 1).length cn1) := cN1'
                clear cN0' cN1' t0 t1
                have hlt10 := hk10.lt
                have hfin0 : Below w.heap.size w w9 := (unhide HEND).trans (hb9.mono (by omega))
                have hfin1 : Below w.heap.size w W9 := hfin0.trans (keep9.belowB (by omega) (by omega))
                have hfin : Below w.heap.size w w10 := hfin1.trans (hb10.mono (by omega))
                have hd1 : w.heap.size ≤ w10.heap.size := by omega
                have hd2 : w.heap.size ≤ w7.heap.size := by omega
                have HFIN : Hid (∀ V, Keeps (· = w7.heap.size) w10 V → ∀ N, Below w.heap.size w (V.drewN N)) := hide (fun V hV N => below_drewN (hfin.trans (hV.belowB hd1 hd2)) N)
                clear hfin0 hfin1
                generalize (k8.n 0).length = l0 at *
                generalize (k8.n 1).length = l1 at *
                have n1 : ¬ kb = w7.heap.size := by omega
                have n2 : ¬ w7.heap.size = kb := by omega
                have n3 : ¬ w6.heap.size = w7.heap.size := by omega
                have n4 : ¬ w7.heap.size = w6.heap.size := by omega
                clear hfin HEND hb9 hb10 keep9 z10 x6 x7 HBX hk10
                go_wp2_with fail
                obtain ⟨W10, hW10⟩ : ∃ W10, W10 = (((((((((((w10.setCell ⟨w7.heap.size, 0, none⟩ (.int .i64 f0)).setCell ⟨w7.heap.size, 1, none⟩ (.int .i64 f1)).setCell ⟨w7.heap.size, 2, none⟩ (.int .i64 f2)).setCell ⟨w7.heap.size, 3, none⟩ (.int .i64 f3)).setCell ⟨w7.heap.size, 4, none⟩ (.int .i64 f4)).setCell ⟨w7.heap.size, 5, none⟩ (.int .i64 f5)).setCell ⟨w7.heap.size, 6, none⟩ (.bool f6)).setCell ⟨w7.heap.size, 7, none⟩ (.bool f7)).setCell ⟨w7.heap.size, 8, none⟩ (.bool f8)).setCell ⟨w7.heap.size, 9, none⟩ (.int .i64 0)).setCell ⟨w7.heap.size, 10, none⟩ (.int .i64 f10)) := ⟨_, rfl⟩
                rw [← hW10]
                have z11 := store11 y7 (.int .i64 f0) (.int .i64 f1) (.int .i64 f2) (.int .i64 f3) (.int .i64 f4) (.int .i64 f5) (.bool f6) (.bool f7) (.bool f8) (.int .i64 0) (.int .i64 f10)
                rw [← hW10] at z11
                have keep10 : Keeps (· = w7.heap.size) w10 W10 := by rw [hW10]; exact ((((((((((((Keeps.refl (· = w7.heap.size) w10).setB 0 _).setB 1 _).setB 2 _).setB 3 _).setB 4 _).setB 5 _).setB 6 _).setB 7 _).setB 8 _).setB 9 _).setB 10 _)
                have HFN := hide (unhide HFIN W10 keep10)
                have j9 : W10.cell? ⟨w7.heap.size, 9, none⟩ = some (.int .i64 0) := by rw [Lib.cell_of_heap z11]; rfl
                have i9 : W10.cell? ⟨w6.heap.size, 9, none⟩ = some (.int .i64 0) := (keep10.cell (p := ⟨w6.heap.size, 9, none⟩) (by show w6.heap.size < _; omega) (fun e => by have e' : w6.heap.size = w7.heap.size := e; omega)).trans c9
                have iT0 := (keep10.cell (p := ⟨kb, 6, none⟩) hlt10 (fun e => n1 e)).trans cT0
                have iT1 := (keep10.cell (p := ⟨kb, 7, none⟩) hlt10 (fun e => n1 e)).trans cT1
                have iN0 := (keep10.cell (p := ⟨kb, 4, none⟩) hlt10 (fun e => n1 e)).trans cN0
                have iN1 := (keep10.cell (p := ⟨kb, 5, none⟩) hlt10 (fun e => n1 e)).trans cN1
                clear hW10 z11 keep10 HFIN c9 cT0 cT1 cN0 cN1 y6 y7 g0 g1 g2 g3 g4 g5 g6 g7 g8 g9 g10 fz
                go_quiet (fail)
                go_wp2
                go_ret
                exact ⟨rfl, by first | exact unhide HFN _ | exact unhide HFN 0⟩
end Go.Proofs.YtkalonhalhdlaaaDoor
