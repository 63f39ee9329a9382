/-
  What one call of Ordered does.
-/
import Derived.Test.YtkalonhalhdlaaaDoorKWith1
import Derived.Test.YtkalonhalhdlaaaDoorKFlow
import Derived.Test.YtkalonhalhdlaaaDoorOSim
namespace Go.Proofs.YtkalonhalhdlaaaDoor
open Go.RowKit

/-- A link that has just begun. -/
def lkB : Lk := ⟨fun _ => stUp, fun _ => [], fun _ => [], fun _ => 0, false⟩
def gnB : Gn := ⟨[], 0, 0, 0, 0, [], false, false, false, false, 0, 0⟩
def pkB : Pk := ⟨fun _ => gnB, fun _ => [], fun _ => 0⟩
theorem lkB_fine : lkB.fine 0 := ⟨fun i _ => by simp [lkB, stUp, St.fresh], fun i _ m hm => by simp [lkB, stUp, St.fresh] at hm, fun i _ => by simp [lkB, stUp, St.fresh], fun i _ m hm => by simp [lkB] at hm, fun i _ => by simp [lkB], fun i _ => by simp [lkB], fun i _ => by simp [lkB]⟩
theorem lkB_sim (c : Nat → Cfg) : Sim c lkB pkB :=
  ⟨rfl, fun i _ => ⟨⟨rfl, rfl, (Nat.zero_mod _).symm, (Nat.zero_mod _).symm, (Nat.zero_mod _).symm, (Nat.zero_mod _).symm, Nat.le_refl _, Nat.le_refl _, Nat.le_refl _, Nat.zero_le _, rfl, fun m hm => by simp [pkB, gnB] at hm⟩, rfl, rfl, rfl, rfl, rfl, rfl, rfl⟩, fun _ _ => rfl, fun _ _ => rfl, fun _ _ => rfl⟩
theorem pkB_inv (c : Nat → Cfg) : pkB.inv c :=
  ⟨fun i _ => ⟨Nat.le_refl _, Nat.le_refl _, Nat.le_refl _, Nat.zero_le _, fun m hm => by simp [pkB, gnB] at hm⟩, fun i _ => ⟨fun g hg => by simp [pkB] at hg, fun g hg => by simp [pkB] at hg, List.Pairwise.nil, fun g hg => by simp [pkB] at hg, Nat.le_refl _, Nat.le_refl _, Nat.le_refl _, rfl⟩⟩
theorem cfgs_two (x : Raw) : Two (cfgs x) :=
  ⟨fun _ hi => cfgs_ok x hi, fun _ _ => rfl, fun _ _ => rfl, fun i hi => by
    have : i = 0 ∨ i = 1 := by omega
    rcases this with rfl | rfl <;> rfl⟩

/-- Behind r moves. -/
def OrdInv (B : Fen) (w : World) (kb : Nat) (b : Nat → Nat) (c : Nat → Cfg) (r : Nat) (wr : World) : Prop := ∃ (k : Lk) (p : Pk), k.at B w kb b c wr ∧ k.fine r ∧ Sim c k p ∧ p.inv c ∧ k.still

set_option maxHeartbeats 8000000 in
set_option maxRecDepth 100000 in
theorem ordered_any (x : Raw) (hx : x.fits) (pm : Option Addr) (nm cpm : Nat) (w : World) (hC : Ctl w) (hw : 0 < w.heap.size) (hm : MovesIn w w.heap.size pm nm) (_hnm : nm ≤ maxLen) :
    Calls Tryd.prog 6 #[x.val, .slice pm nm cpm] w fun e w' => e = .returned (.bool true) ∧ Below w.heap.size w w' := by
  have hm63 : maxLen = 9223372036854775807 := by unfold maxLen; omega
  rw [hm63] at _hnm
  clear hm63
  simp only [Raw.val]
  obtain ⟨W0, hW0⟩ : ∃ W0, W0 = w.alloc (.cells #[.bool x.wide, .int .i64 x.win, .int .i64 x.tim, .int .i64 x.tri, .int .i64 x.room] 33) := ⟨_, rfl⟩
  have hb0 : Below w.heap.size w W0 := by rw [hW0]; exact (Below.refl _ w).alloc (Nat.le_refl _) _
  have hs0 : W0.heap.size = w.heap.size + 1 := by rw [hW0]; exact alloc1_s _ _
  have k1 := begun_any x hx W0 (hC.below hb0 hw) (by omega)
  simp only [Raw.val] at k1
  rw [hs0] at k1
  have K1 := hide k1
  have HALL : Hid (Below w.heap.size w W0) := hide hb0
  have HMV : Hid (MovesIn W0 (w.heap.size + 1) pm nm) := hide ((hm.below hb0).mono (by omega))
  have HT := hide (cfgs_two x)
  have htop : (fen (w.heap.size + 1) 0).top ≤ W0.heap.size := by unfold Fen.top; show max (w.heap.size + 1) (0 + 1) ≤ _; omega
  clear k1 hC hm hb0 hs0
  go_enter Tryd.func6, Tryd.ntmps6
  go_wp2_with fail
  rw [← hW0]
  clear hW0
  refine (unhide K1).mono ?_
  rintro e w1 ⟨kb, b, rfl, hlk⟩
  clear K1
  have HI : Hid (OrdInv (fen (w.heap.size + 1) 0) W0 kb b (cfgs x) 0 w1) := hide ⟨lkB, pkB, hlk, lkB_fine, lkB_sim _, pkB_inv _, fun _ _ => ⟨rfl, rfl⟩⟩
  clear hlk
  go_wp2
  go_loopg [6] 400 (fun k i wr => ∃ r : Nat, r + k = 400 ∧ i = .int .i64 r ∧ OrdInv (fen (w.heap.size + 1) 0) W0 kb b (cfgs x) r wr)
  case atStart => exact ⟨0, rfl, rfl, unhide HI⟩
  case round =>
    obtain ⟨r, hrk, rfl, k, p, hk, hf, hsim, hinv, hst⟩ := hrel
    clear HI
    have hgo : (r < nm ∧ r < 400) ∨ ¬ (r < nm ∧ r < 400) := Classical.em _
    rcases hgo with ⟨h1, h2⟩ | hno
    · obtain ⟨bm, om, mx, my, mz, rfl, hbm, v1, v2, v3, g1, g2, g3⟩ := (unhide HMV) r h1
      have hbel : Bel (fen (w.heap.size + 1) 0) W0 wr := by obtain ⟨_, _, _, _, _, h3⟩ := hk; exact h3
      have m1 : wr.cell? ⟨bm, om + r * 3, none⟩ = some (.int .i64 mx) := by rw [hbel.below.cell (p := ⟨bm, om + r * 3, none⟩) hbm]; exact v1
      have m2 : wr.cell? ⟨bm, om + r * 3 + 1, none⟩ = some (.int .i64 my) := by rw [hbel.below.cell (p := ⟨bm, om + r * 3 + 1, none⟩) hbm]; exact v2
      have m3 : wr.cell? ⟨bm, om + r * 3 + 2, none⟩ = some (.int .i64 mz) := by rw [hbel.below.cell (p := ⟨bm, om + r * 3 + 2, none⟩) hbm]; exact v3
      clear v1 v2 v3
      have hfm := Lk.fine_move (c := cfgs x) (kd := pickN mx 11) (i := pickN my 2) (on := pickN mz 2 == 1) hf
      have ka := acts_link hk htop (Lk.small_of hf (by omega)) mx my mz g1 g2 g3 (fun j hj => by have := hfm.2.1 j hj; omega)
      obtain ⟨o1, o2⟩ := hsim.moved hinv (unhide HT) (show pickN my 2 < 2 by have := pickN_lt my 2 (by omega); omega) (fun j hj => (hst j hj).1) (pickN mx 11) (pickN mz 2 == 1)
      rw [o1] at ka
      have hst4 : ((k.move (cfgs x) (pickN mx 11) (pickN my 2) (pickN mz 2 == 1)).look).still := Lk.look_still
      have HF4 := hide hfm.1
      have HST4 := hide hst4
      have HO := hide o2
      have KA := hide ka
      have h1i : (r : Int) < (nm : Int) := by omega
      have h2i : (r : Int) < 400 := by omega
      clear ka hfm hk hf hbel hst4 hst hsim hinv o1 o2
      generalize (k.move (cfgs x) (pickN mx 11) (pickN my 2) (pickN mz 2 == 1)).look = k4 at *
      go_wp2_with fail
      refine (unhide KA).mono ?_
      rintro e w4 ⟨rfl, hk4⟩
      clear KA m1 m2 m3
      have cE : w4.cell? ⟨kb, 8, none⟩ = some (.bool k4.en) := by
        obtain ⟨_, _, _, hK, _, _⟩ := hk4
        exact hK.cell 8 rfl
      have HEND : Hid (Below w.heap.size w w4) := hide ((unhide HALL).trans (by obtain ⟨_, _, _, _, _, h3⟩ := hk4; exact h3.below.mono (by show w.heap.size ≤ w.heap.size + 1; omega)))
      cases hen : k4.en with
      | true =>
        rw [hen] at cE
        clear HO HF4 HST4 hk4 hen HMV
        go_wp2
        go_ret
        exact ⟨rfl, unhide HEND⟩
      | false =>
        rw [hen] at cE
        have HR : Hid (OrdInv (fen (w.heap.size + 1) 0) W0 kb b (cfgs x) (r + 1) w4) := hide (by
          rcases unhide HO with o | ⟨q, q1, q2, q3, _⟩
          · rw [hen] at o; cases o
          · exact ⟨k4, q, hk4, unhide HF4, q2, q3, unhide HST4⟩)
        clear HO HF4 HST4 hk4 hen HMV HEND
        go_wp2
        go_roundg (gk - 1)
        case measure => omega
        case rel => exact ⟨r + 1, by omega, by go_num, unhide HR⟩
    · clear HMV
      have hsm := Lk.small_of hf (by omega)
      obtain ⟨t1, sim1⟩ := hsim.take hinv (show 0 < 2 by omega)
      have inv1 := hinv.taken (i := 0) (by omega)
      obtain ⟨t2, z2⟩ := sim1.take inv1 (show 1 < 2 by omega)
      have k2 := takes_at hk htop 0 (by omega) (hsm.t 1 (by omega)) (hsm.n 1 (by omega)) (hsm.out 0 (by omega))
      rw [t1] at k2
      have ht9 : (k.take (cfgs x) 0).t 0 ≤ 1000000 := by
        have e : (k.take (cfgs x) 0).t 0 = k.t 0 := rfl
        rw [e]
        exact hsm.t 0 (by omega)
      have ho9 : ((k.take (cfgs x) 0).s 1).out.length + 18 ≤ 2199023255552 := by
        have e : (k.take (cfgs x) 0).s 1 = k.s 1 := rfl
        rw [e]
        exact hsm.out 1 (by omega)
      have k3 : ∀ W, (k.take (cfgs x) 0).at (fen (w.heap.size + 1) 0) W0 kb b (cfgs x) W → Calls Tryd.prog 28 #[.pointer (some ⟨kb, 0, none⟩), .int .i64 (1 : Nat)] W fun e w' => e = .returned (.bool true) ∧ ((k.take (cfgs x) 0).take (cfgs x) 1).at (fen (w.heap.size + 1) 0) W0 kb b (cfgs x) w' := by
        intro W hW
        have q := takes_at hW htop 1 (by omega) ht9 (hsm.n 0 (by omega)) ho9
        rw [t2] at q
        exact q
      have K2 := hide k2
      have K3 := hide k3
      clear k2 k3 t1 t2 z2 sim1 inv1 hsm ht9 ho9 hk hf hsim hinv hst
      by_cases h1 : r < nm
      · have h2i : ¬ ((r : Int) < 400) := by omega
        have h1i : (r : Int) < (nm : Int) := by omega
        go_wp2_with fail
        refine (unhide K2).mono ?_
        rintro e w2 ⟨rfl, h2⟩
        have k3 := unhide K3 w2 h2
        clear K2 K3 h2
        have K3 := hide k3
        clear k3
        go_wp2_with fail
        refine (unhide K3).mono ?_
        rintro e w3 ⟨rfl, h3⟩
        have HEND : Hid (Below w.heap.size w w3) := hide ((unhide HALL).trans (by obtain ⟨_, _, _, _, _, h3⟩ := h3; exact h3.below.mono (by show w.heap.size ≤ w.heap.size + 1; omega)))
        clear K3 h3
        go_wp2
        go_ret
        exact ⟨rfl, unhide HEND⟩
      · have h1i : ¬ ((r : Int) < (nm : Int)) := by omega
        go_wp2_with fail
        refine (unhide K2).mono ?_
        rintro e w2 ⟨rfl, h2⟩
        have k3 := unhide K3 w2 h2
        clear K2 K3 h2
        have K3 := hide k3
        clear k3
        go_wp2_with fail
        refine (unhide K3).mono ?_
        rintro e w3 ⟨rfl, h3⟩
        have HEND : Hid (Below w.heap.size w w3) := hide ((unhide HALL).trans (by obtain ⟨_, _, _, _, _, h3⟩ := h3; exact h3.below.mono (by show w.heap.size ≤ w.heap.size + 1; omega)))
        clear K3 h3
        go_wp2
        go_ret
        exact ⟨rfl, unhide HEND⟩
end Go.Proofs.YtkalonhalhdlaaaDoor
