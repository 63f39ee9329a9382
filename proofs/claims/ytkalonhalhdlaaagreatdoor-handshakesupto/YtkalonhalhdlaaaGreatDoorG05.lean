import Derived.Test.YtkalonhalhdlaaaGreatDoorG04
import Derived.Laws.OwnMore
import Derived.Test.YtkalonhalhdlaaaGreatDoorG01
import Derived.Test.YtkalonhalhdlaaaGreatDoorG02
/-
  What the methods of a station do that hear a frame: Calling, Leaving; fallApart; answerChange.
-/
namespace Go.Proofs.YtkalonhalhdlaaaGreatDoor
open Go.RowKit
section
variable {w W : World} {own : Nat → Nat} {i b : Nat} {c : Cfg} {s : St} {cl : Bool} {ch : Nat} {q cm o ev : Value} {qe ce oe : List Value}
set_option maxHeartbeats 4000000 in
set_option maxRecDepth 100000 in
theorem hearCalling_any (h : SAt w own i b c s cl ch q cm o ev qe ce oe) (f : Fr) (fq : Option Addr) (fc : Nat) (hl : s.out.length ≤ 2199023255552) (hl2 : s.events.length ≤ 2199023255552) :
    Calls Tryz.prog 144 #[.pointer (some ⟨b, 0, none⟩), frV f fq fc] w fun e w' => Did i b c (hearCalling c f s) cl own w e w' := by
  have hlt := h.lt
  have k1 := fun V (hV : Below w.heap.size w V) => respond_any (h.later hV) 7 f fq fc hl
  have k2 := fun V (hV : Below w.heap.size w V) => respond_any (h.later hV) 8 f fq fc hl
  have k3 := fun V (hV : Below w.heap.size w V) => comeUp_any (h.later hV) 1 hl2
  have k4 := fun V (hV : Below w.heap.size w V) => goDown_any (h.later hV) 4 hl2
  have hdef : hearCalling c f s = if f.k = 5 then respond c 7 f.p s else if f.k = 6 then respond c 8 f.p s else if f.k = 7 ∧ f.p = true then comeUp 1 s else if f.k = 8 ∧ f.p = true then goDown 4 s else s := rfl
  have K1 := hide k1
  have K2 := hide k2
  have K3 := hide k3
  have K4 := hide k4
  have HD := hide hdef
  have HI := hide h
  clear h k1 k2 k3 k4 hdef
  obtain ⟨fa, fk, fp, fns, fnr, info⟩ := f
  unfold frV at K1 K2 ⊢
  simp only at K1 K2 HD ⊢
  by_cases h5 : fk = 5
  · have HD2 := hide ((unhide HD).trans (if_pos h5))
    clear HD
    subst h5
    go_enter Tryz.func144, Tryz.ntmps144
    go_wp2_with fail
    refine (unhide K1 _ ?_).mono ?_
    · exact (Below.refl _ w).alloc (Nat.le_refl _) _
    rintro e w1 ⟨rfl, own2, h3, u3⟩
    have HR := hide (And.intro h3 (Upd.of (w := w) ((Below.refl _ w).alloc (Nat.le_refl _) _) u3))
    clear h3 u3 K1
    go_wp2
    first | go_end0 | refine bodyPost_ret (results_none rfl _ _ _) rfl ?_
    rw [unhide HD2]
    exact ⟨rfl, own2, (unhide HR).1, (unhide HR).2⟩
  · have HD1 := hide ((unhide HD).trans (if_neg h5))
    clear HD
    by_cases h6 : fk = 6
    · have HD2 := hide ((unhide HD1).trans (if_pos h6))
      clear HD1
      subst h6
      go_enter Tryz.func144, Tryz.ntmps144
      go_wp2_with fail
      refine (unhide K2 _ ?_).mono ?_
      · exact (Below.refl _ w).alloc (Nat.le_refl _) _
      rintro e w1 ⟨rfl, own2, h3, u3⟩
      have HR := hide (And.intro h3 (Upd.of (w := w) ((Below.refl _ w).alloc (Nat.le_refl _) _) u3))
      clear h3 u3 K2
      go_wp2
      first | go_end0 | refine bodyPost_ret (results_none rfl _ _ _) rfl ?_
      rw [unhide HD2]
      exact ⟨rfl, own2, (unhide HR).1, (unhide HR).2⟩
    · have HD3 := hide ((unhide HD1).trans (if_neg h6))
      clear HD1
      by_cases h7 : fk = 7
      · subst h7
        cases fp with
        | true =>
          have HD2 := hide ((unhide HD3).trans (if_pos ⟨rfl, rfl⟩))
          clear HD3
          go_enter Tryz.func144, Tryz.ntmps144
          go_wp2_with fail
          refine (unhide K3 _ ?_).mono ?_
          · exact (Below.refl _ w).alloc (Nat.le_refl _) _
          rintro e w1 ⟨rfl, own2, h3, u3⟩
          have HR := hide (And.intro h3 (Upd.of (w := w) ((Below.refl _ w).alloc (Nat.le_refl _) _) u3))
          clear h3 u3 K3
          go_wp2
          first | go_end0 | refine bodyPost_ret (results_none rfl _ _ _) rfl ?_
          rw [unhide HD2]
          exact ⟨rfl, own2, (unhide HR).1, (unhide HR).2⟩
        | false =>
          have HD2 := hide ((unhide HD3).trans ((if_neg (by simp)).trans (if_neg (by simp))))
          clear HD3
          go_enter Tryz.func144, Tryz.ntmps144
          go_wp2
          first | go_end0 | refine bodyPost_ret (results_none rfl _ _ _) rfl ?_
          rw [unhide HD2]
          exact (unhide HI).idleB ((Below.refl _ w).alloc (Nat.le_refl _) _)
      · by_cases h8 : fk = 8
        · subst h8
          cases fp with
          | true =>
            have HD2 := hide ((unhide HD3).trans ((if_neg (by simp)).trans (if_pos ⟨rfl, rfl⟩)))
            clear HD3
            go_enter Tryz.func144, Tryz.ntmps144
            go_wp2_with fail
            refine (unhide K4 _ ?_).mono ?_
            · exact (Below.refl _ w).alloc (Nat.le_refl _) _
            rintro e w1 ⟨rfl, own2, h3, u3⟩
            have HR := hide (And.intro h3 (Upd.of (w := w) ((Below.refl _ w).alloc (Nat.le_refl _) _) u3))
            clear h3 u3 K4
            go_wp2
            first | go_end0 | refine bodyPost_ret (results_none rfl _ _ _) rfl ?_
            rw [unhide HD2]
            exact ⟨rfl, own2, (unhide HR).1, (unhide HR).2⟩
          | false =>
            have HD2 := hide ((unhide HD3).trans ((if_neg (by simp)).trans (if_neg (by simp))))
            clear HD3
            go_enter Tryz.func144, Tryz.ntmps144
            go_wp2
            first | go_end0 | refine bodyPost_ret (results_none rfl _ _ _) rfl ?_
            rw [unhide HD2]
            exact (unhide HI).idleB ((Below.refl _ w).alloc (Nat.le_refl _) _)
        · have HD2 := hide ((unhide HD3).trans ((if_neg (fun hh => h7 hh.1)).trans (if_neg (fun hh => h8 hh.1))))
          have n5 : (fk == 5) = false := by simp; omega
          have n6 : (fk == 6) = false := by simp; omega
          have n7 : (fk == 7) = false := by simp; omega
          have n8 : (fk == 8) = false := by simp; omega
          clear HD3 h5 h6 h7 h8
          go_enter Tryz.func144, Tryz.ntmps144
          go_wp2
          first | go_end0 | refine bodyPost_ret (results_none rfl _ _ _) rfl ?_
          rw [unhide HD2]
          exact (unhide HI).idleB ((Below.refl _ w).alloc (Nat.le_refl _) _)
set_option maxHeartbeats 4000000 in
set_option maxRecDepth 100000 in
theorem hearLeaving_any (h : SAt w own i b c s cl ch q cm o ev qe ce oe) (f : Fr) (fq : Option Addr) (fc : Nat) (hl : s.out.length ≤ 2199023255552) (hl2 : s.events.length ≤ 2199023255552) :
    Calls Tryz.prog 146 #[.pointer (some ⟨b, 0, none⟩), frV f fq fc] w fun e w' => Did i b c (hearLeaving c f s) cl own w e w' := by
  have hlt := h.lt
  have k1 := fun V (hV : Below w.heap.size w V) => respond_any (h.later hV) 8 f fq fc hl
  have k2 := fun V (hV : Below w.heap.size w V) => respond_any (h.later hV) 7 f fq fc hl
  have k3 := fun V (hV : Below w.heap.size w V) => goDown_any (h.later hV) 3 hl2
  have hdef : hearLeaving c f s = if f.k = 5 then respond c 8 f.p s else if f.k = 6 then respond c 7 f.p s else if f.k = 7 ∨ f.k = 8 then (if f.p then goDown 3 s else s) else s := rfl
  have K1 := hide k1
  have K2 := hide k2
  have K3 := hide k3
  have HD := hide hdef
  have HI := hide h
  clear h k1 k2 k3 hdef
  obtain ⟨fa, fk, fp, fns, fnr, info⟩ := f
  unfold frV at K1 K2 ⊢
  simp only at K1 K2 HD ⊢
  by_cases h5 : fk = 5
  · have HD2 := hide ((unhide HD).trans (if_pos h5))
    clear HD
    subst h5
    go_enter Tryz.func146, Tryz.ntmps146
    go_wp2_with fail
    refine (unhide K1 _ ?_).mono ?_
    · exact (Below.refl _ w).alloc (Nat.le_refl _) _
    rintro e w1 ⟨rfl, own2, h3, u3⟩
    have HR := hide (And.intro h3 (Upd.of (w := w) ((Below.refl _ w).alloc (Nat.le_refl _) _) u3))
    clear h3 u3 K1
    go_wp2
    first | go_end0 | refine bodyPost_ret (results_none rfl _ _ _) rfl ?_
    rw [unhide HD2]
    exact ⟨rfl, own2, (unhide HR).1, (unhide HR).2⟩
  · have HD1 := hide ((unhide HD).trans (if_neg h5))
    clear HD
    by_cases h6 : fk = 6
    · have HD2 := hide ((unhide HD1).trans (if_pos h6))
      clear HD1
      subst h6
      go_enter Tryz.func146, Tryz.ntmps146
      go_wp2_with fail
      refine (unhide K2 _ ?_).mono ?_
      · exact (Below.refl _ w).alloc (Nat.le_refl _) _
      rintro e w1 ⟨rfl, own2, h3, u3⟩
      have HR := hide (And.intro h3 (Upd.of (w := w) ((Below.refl _ w).alloc (Nat.le_refl _) _) u3))
      clear h3 u3 K2
      go_wp2
      first | go_end0 | refine bodyPost_ret (results_none rfl _ _ _) rfl ?_
      rw [unhide HD2]
      exact ⟨rfl, own2, (unhide HR).1, (unhide HR).2⟩
    · have HD3 := hide ((unhide HD1).trans (if_neg h6))
      clear HD1
      by_cases h7 : fk = 7 ∨ fk = 8
      · cases fp with
        | true =>
          have HD2 := hide ((unhide HD3).trans ((if_pos h7).trans (if_pos rfl)))
          clear HD3
          rcases h7 with rfl | rfl
          all_goals
            go_enter Tryz.func146, Tryz.ntmps146
            go_wp2_with fail
            refine (unhide K3 _ ?_).mono ?_
            · exact (Below.refl _ w).alloc (Nat.le_refl _) _
            rintro e w1 ⟨rfl, own2, h3, u3⟩
            have HR := hide (And.intro h3 (Upd.of (w := w) ((Below.refl _ w).alloc (Nat.le_refl _) _) u3))
            clear h3 u3 K3
            go_wp2
            first | go_end0 | refine bodyPost_ret (results_none rfl _ _ _) rfl ?_
            rw [unhide HD2]
            exact ⟨rfl, own2, (unhide HR).1, (unhide HR).2⟩
        | false =>
          have HD2 := hide ((unhide HD3).trans ((if_pos h7).trans (if_neg (by simp))))
          clear HD3
          rcases h7 with rfl | rfl
          all_goals
            go_enter Tryz.func146, Tryz.ntmps146
            go_wp2
            first | go_end0 | refine bodyPost_ret (results_none rfl _ _ _) rfl ?_
            rw [unhide HD2]
            exact (unhide HI).idleB ((Below.refl _ w).alloc (Nat.le_refl _) _)
      · have HD2 := hide ((unhide HD3).trans (if_neg h7))
        have n5 : (fk == 5) = false := by simp; omega
        have n6 : (fk == 6) = false := by simp; omega
        have n7 : (fk == 7) = false := by simp; omega
        have n8 : (fk == 8) = false := by simp; omega
        clear HD3 h5 h6 h7
        go_enter Tryz.func146, Tryz.ntmps146
        go_wp2
        first | go_end0 | refine bodyPost_ret (results_none rfl _ _ _) rfl ?_
        rw [unhide HD2]
        exact (unhide HI).idleB ((Below.refl _ w).alloc (Nat.le_refl _) _)
end
end Go.Proofs.YtkalonhalhdlaaaGreatDoor

/-
  What the methods of a station do that hear a frame: fallApart; answerChange; hearReadiness.
-/
namespace Go.Proofs.YtkalonhalhdlaaaGreatDoor
open Go.RowKit
section
variable {w W : World} {own : Nat → Nat} {i b : Nat} {c : Cfg} {s : St} {cl : Bool} {ch : Nat} {q cm o ev : Value} {qe ce oe : List Value}
set_option maxHeartbeats 4000000 in
set_option maxRecDepth 100000 in
theorem answerChange_any (h : SAt w own i b c s cl ch q cm o ev qe ce oe) (was : Bool) (hl : s.out.length ≤ 2199023255552) :
    Calls Tryz.prog 90 #[.pointer (some ⟨b, 0, none⟩), .bool was] w fun e w' => Did i b c (change c was s) cl own w e w' := by
  have hlt := h.lt
  have c7 := h.c_state
  have k1 := isHeldUp_any h
  have k2 := fun n => answer_any (h.drewN n) false hl
  have hdef : change c was s = if s.state = 2 ∧ heldUp c s ≠ was then answer c false s else s := rfl
  generalize heldUp c s = x at k1 hdef
  have K2 := hide k2
  have HD := hide hdef
  have HI := hide h
  clear h k2 hdef
  by_cases h2 : s.state = 2
  · have t2 : ((s.state : Int) == 2) = true := by simp [h2]
    by_cases hx : x = was
    · have HD2 := hide ((unhide HD).trans (if_neg (fun hh => hh.2 hx)))
      subst hx
      clear HD h2
      go_enter Tryz.func90, Tryz.ntmps90
      go_wp2_with fail
      refine k1.mono ?_
      rintro e w0 ⟨rfl, n0, rfl⟩
      clear k1
      go_wp2
      first | go_end0 | refine bodyPost_ret (results_none rfl _ _ _) rfl ?_
      rw [unhide HD2]
      exact (unhide HI).idleB (below_drewN (Below.refl _ w) _)
    · have HD2 := hide ((unhide HD).trans (if_pos ⟨h2, hx⟩))
      have tx : (x != was) = true := by simp [hx]
      have tx2 : (x == was) = false := by simp [hx]
      clear HD h2 hx
      go_enter Tryz.func90, Tryz.ntmps90
      go_wp2_with fail
      refine k1.mono ?_
      rintro e w0 ⟨rfl, n0, rfl⟩
      clear k1
      go_wp2_with fail
      refine (unhide K2 _).mono ?_
      rintro e w1 ⟨rfl, own2, h3, u3⟩
      have HR := hide (And.intro h3 (Upd.of (w := w) (below_drewN (Below.refl _ w) _) u3))
      clear h3 u3 K2
      go_wp2
      first | go_end0 | refine bodyPost_ret (results_none rfl _ _ _) rfl ?_
      rw [unhide HD2]
      exact ⟨rfl, own2, (unhide HR).1, (unhide HR).2⟩
  · have HD2 := hide ((unhide HD).trans (if_neg (fun hh => h2 hh.1)))
    have t2 : ((s.state : Int) == 2) = false := by simp; omega
    clear HD h2
    go_enter Tryz.func90, Tryz.ntmps90
    clear k1
    go_wp2
    first | go_end0 | refine bodyPost_ret (results_none rfl _ _ _) rfl ?_
    rw [unhide HD2]
    exact (unhide HI).idle
set_option maxHeartbeats 4000000 in
set_option maxRecDepth 100000 in
theorem fallApart_any (h : SAt w own i b c s cl ch q cm o ev qe ce oe) (f : Fr) (fq : Option Addr) (fc : Nat) (hl : s.out.length ≤ 2199023255552) (hl2 : s.events.length ≤ 2199023255552) :
    Calls Tryz.prog 167 #[.pointer (some ⟨b, 0, none⟩), frV f fq fc] w fun e w' => Did i b c (fallApart c f s) cl own w e w' := by
  have hlt := h.lt
  have hn0 := h.new0 w.heap.size (Nat.le_refl _)
  have K1 := hide (fun V (hV : Below w.heap.size w V) => startOver_any (h.later hV))
  clear h
  unfold frV
  go_enter Tryz.func167, Tryz.ntmps167
  go_wp2_with fail
  refine (unhide K1 _ ((Below.refl _ w).alloc (Nat.le_refl _) _)).mono ?_
  rintro e w1 ⟨rfl, h1, u1⟩
  obtain ⟨y0, y1, y2, y3, y4, y5⟩ := frBox (box_kept u1 hn0)
  have c7 := h1.c_state
  have fz := h1.fz
  have hlt1 := h1.lt
  have hK : Keeps (· = b) w1 _ := (Keeps.refl _ w1).setB 7 (.int .i64 (4 : Nat))
  have h2 := h1.wroteL hK ((h1.hd.state 4).as { over s with state := 4 } rfl) Stays.same Stays.same Stays.same (.inl ⟨rfl, rfl⟩) (over_fit h1.cok h1.sok 4 (by omega) 0 0 (Nat.zero_le _) (Nat.zero_le _))
  have hbx : (w1.setCell ⟨b, 7, none⟩ (.int .i64 (4 : Nat))).heap[w.heap.size]? = w1.heap[w.heap.size]? := Below.heap_setCell _ _ _ _ (by show w.heap.size ≠ b; omega)
  have hbx2 := hbx.trans (box_kept u1 hn0)
  have hltx : w.heap.size < w1.heap.size := by have := u1.keeps.size; rw [alloc1_s] at this; omega
  have hk := isCommand_any h2 f fq fc
  unfold frV at hk
  have K2 := hide hk
  have H2 := hide h2
  have U := hide ((Upd.of (w := w) ((Below.refl _ w).alloc (Nat.le_refl _) _) u1).trans (h1.upd hK))
  have BX := hide hbx2
  have K3 := hide (fun V hV => report_any (h2.later (w' := V) hV) (isCmd c f && f.p) hl)
  have hmod : (isCmd c f && f.p) = (isCmd c f && f.p) := rfl
  clear hk h2 u1 h1 hK hbx hbx2 K1 hmod
  generalize hx : isCmd c f = x at K2 K3
  have HX := hide hx
  clear hx
  have hne : w.heap.size ≠ b := by omega
  have HD : Hid (fallApart c f s = tell 2 (report c (x && f.p) { over s with state := 4 })) := hide (by unfold fallApart; rw [unhide HX])
  clear HX
  cases x with
  | true =>
    simp only [Bool.true_and] at K3 HD
    go_wp2_with fail
    refine (unhide K2).mono ?_
    rintro e w2 ⟨rfl, hb⟩
    have hbw : w2.heap[w.heap.size]? = _ := (hb.block w.heap.size (by rw [size_setCell]; exact hltx)).trans (unhide BX)
    obtain ⟨z0, z1, z2, z3, z4, z5⟩ := frBox hbw
    have K4 := hide (unhide K3 w2 hb)
    have U2 := hide ((unhide U).trans (Upd.of hb (Upd.refl i own w2)))
    clear hb hbw K3 K2 BX U y0 y1 y2 y3 y4 y5 c7 fz H2
    go_wp2_with fail
    refine (unhide K4).mono ?_
    rintro e w3 ⟨rfl, own3, ⟨ch3, q3, cm3, o3, ev3, qe3, ce3, oe3, h3⟩, u3⟩
    have K5 := hide (tell_any h3 2 hl2)
    have U3 := hide ((unhide U2).trans u3)
    clear K4 h3 u3 U2
    go_wp2_with fail
    refine (unhide K5).mono ?_
    rintro e w4 ⟨rfl, own4, h4, u4⟩
    have HR := hide (And.intro h4 ((unhide U3).trans u4))
    clear h4 u4 K5 U3
    go_wp2
    first | go_end0 | refine bodyPost_ret (results_none rfl _ _ _) rfl ?_
    rw [unhide HD]
    exact ⟨rfl, own4, (unhide HR).1, (unhide HR).2⟩
  | false =>
    simp only [Bool.false_and] at K3 HD
    go_wp2_with fail
    refine (unhide K2).mono ?_
    rintro e w2 ⟨rfl, hb⟩
    have K4 := hide (unhide K3 w2 hb)
    have U2 := hide ((unhide U).trans (Upd.of hb (Upd.refl i own w2)))
    clear hb K3 K2 BX U y0 y1 y2 y3 y4 y5 c7 fz H2
    go_wp2_with fail
    refine (unhide K4).mono ?_
    rintro e w3 ⟨rfl, own3, ⟨ch3, q3, cm3, o3, ev3, qe3, ce3, oe3, h3⟩, u3⟩
    have K5 := hide (tell_any h3 2 hl2)
    have U3 := hide ((unhide U2).trans u3)
    clear K4 h3 u3 U2
    go_wp2_with fail
    refine (unhide K5).mono ?_
    rintro e w4 ⟨rfl, own4, h4, u4⟩
    have HR := hide (And.intro h4 ((unhide U3).trans u4))
    clear h4 u4 K5 U3
    go_wp2
    first | go_end0 | refine bodyPost_ret (results_none rfl _ _ _) rfl ?_
    rw [unhide HD]
    exact ⟨rfl, own4, (unhide HR).1, (unhide HR).2⟩
end
end Go.Proofs.YtkalonhalhdlaaaGreatDoor

/-
  What one call of hearReadiness does.
-/
namespace Go.Proofs.YtkalonhalhdlaaaGreatDoor
open Go.RowKit
section
variable {w W : World} {own : Nat → Nat} {i b : Nat} {c : Cfg} {s : St} {cl : Bool} {ch : Nat} {q cm o ev : Value} {qe ce oe : List Value}
set_option maxHeartbeats 4000000 in
set_option maxRecDepth 100000 in
theorem hearReady2_any (h : SAt w own i b c s cl ch q cm o ev qe ce oe) (fa fns : Int) (fp : Bool) (nr : Nat) (info : Msg) (fq : Option Addr) (fc : Nat) (hnr : nr < c.m) (hl : s.out.length ≤ 2199023255552) :
    Calls Tryz.prog 170 #[.pointer (some ⟨b, 0, none⟩), frV ⟨fa, 2, fp, fns, (nr : Nat), info⟩ fq fc] w fun e w' => Did i b c (hearReady c ⟨fa, 2, fp, fns, (nr : Nat), info⟩ s) cl own w e w' := by
  have hlt := h.lt
  have c16 := h.c_peer
  have c8 := h.c_vs
  have fz := h.fz
  have hsk := h.sok
  have hS : Keeps (· = b) w (w.setCell ⟨b, 16, none⟩ (.bool false)) := (Keeps.refl _ _).setB 16 (.bool false)
  have h0 := h.wrote (s' := { s with peer := false }) hS (h.hd.peer false) rfl rfl rfl rfl ⟨hsk.state, hsk.vs, hsk.va, hsk.vr, hsk.vm, hsk.q20, hsk.q32, hsk.timer, hsk.tries, hsk.came⟩
  have h1 := h0.later (w' := ((w.setCell ⟨b, 16, none⟩ (.bool false)).alloc (.cells #[.int .i64 fa, .int .i64 (2 : Int), .bool fp, .int .i64 fns, .int .i64 (nr : Nat), .slice fq info.length fc] 30))) ((Below.refl _ _).alloc (Nat.le_refl _) _)
  have u1 : Upd i own own w ((w.setCell ⟨b, 16, none⟩ (.bool false)).alloc (.cells #[.int .i64 fa, .int .i64 (2 : Int), .bool fp, .int .i64 fns, .int .i64 (nr : Nat), .slice fq info.length fc] 30)) := (h.upd hS).trans (Upd.of ((Below.refl _ _).alloc (Nat.le_refl _) _) (Upd.refl _ _ _))
  have hsz0 : (w.setCell ⟨b, 16, none⟩ (.bool false)).heap.size = w.heap.size := by rw [size_setCell]
  have hbx : ((w.setCell ⟨b, 16, none⟩ (.bool false)).alloc (.cells #[.int .i64 fa, .int .i64 (2 : Int), .bool fp, .int .i64 fns, .int .i64 (nr : Nat), .slice fq info.length fc] 30)).heap[w.heap.size]? = some (.cells #[.int .i64 fa, .int .i64 (2 : Int), .bool fp, .int .i64 fns, .int .i64 (nr : Nat), .slice fq info.length fc] 30) := by rw [← hsz0]; exact alloc1_a _ _
  have hltx : w.heap.size < ((w.setCell ⟨b, 16, none⟩ (.bool false)).alloc (.cells #[.int .i64 fa, .int .i64 (2 : Int), .bool fp, .int .i64 fns, .int .i64 (nr : Nat), .slice fq info.length fc] 30)).heap.size := by rw [alloc1_s, hsz0]; omega
  have hdef : hearReady c (⟨fa, 2, fp, fns, (nr : Nat), info⟩ : Fr) s = if fp = false then { s with peer := false } else if isCmd c (⟨fa, 2, fp, fns, (nr : Nat), info⟩ : Fr) then answer c true { s with peer := false } else if s.polling then { { s with peer := false } with polling := false, vs := nr, timer := 0 } else { s with peer := false } := by
    unfold hearReady
    simp
  have hk := isCommand_any h1 (⟨fa, 2, fp, fns, (nr : Nat), info⟩ : Fr) fq fc
  unfold frV at hk ⊢
  simp only at hk hbx ⊢
  generalize hx : isCmd c (⟨fa, 2, fp, fns, (nr : Nat), info⟩ : Fr) = x at hk hdef
  have K2 := hide hk
  have H1 := hide h1
  have U1 := hide u1
  have BX := hide hbx
  have HD := hide hdef
  clear h h0 h1 u1 hk hdef hbx hS hx hsk hsz0
  have hne : w.heap.size ≠ b := by omega
  cases fp with
  | false =>
    have HD2 := hide ((unhide HD).trans (if_pos rfl))
    clear HD K2
    go_enter Tryz.func170, Tryz.ntmps170
    go_wp2
    first | go_end0 | refine bodyPost_ret (results_none rfl _ _ _) rfl ?_
    rw [unhide HD2]
    exact ⟨rfl, own, ⟨_, _, _, _, _, _, _, _, unhide H1⟩, unhide U1⟩
  | true =>
    have HD1 := hide ((unhide HD).trans (if_neg (by simp)))
    clear HD
    cases x with
    | true =>
      have HD2 := hide ((unhide HD1).trans (if_pos rfl))
      clear HD1
      go_enter Tryz.func170, Tryz.ntmps170
      go_wp2_with fail
      refine (unhide K2).mono ?_
      rintro e w2 ⟨rfl, hb⟩
      have K4 := hide (answer_any ((unhide H1).later hb) true hl)
      have U2 := hide ((unhide U1).trans (Upd.of hb (Upd.refl i own w2)))
      clear hb K2 BX U1 H1
      go_wp2_with fail
      refine (unhide K4).mono ?_
      rintro e w3 ⟨rfl, own3, h3, u3⟩
      have HR := hide (And.intro h3 ((unhide U2).trans u3))
      clear h3 u3 K4 U2
      go_wp2
      first | go_end0 | refine bodyPost_ret (results_none rfl _ _ _) rfl ?_
      rw [unhide HD2]
      exact ⟨rfl, own3, (unhide HR).1, (unhide HR).2⟩
    | false =>
      have HD3 := hide ((unhide HD1).trans (if_neg (by simp)))
      clear HD1
      by_cases hp : s.polling = true
      · have HD2 := hide ((unhide HD3).trans (if_pos hp))
        clear HD3
        go_enter Tryz.func170, Tryz.ntmps170
        go_wp2_with fail
        refine (unhide K2).mono ?_
        rintro e w2 ⟨rfl, hb⟩
        have h2 := (unhide H1).later hb
        have d15 : w2.cell? ⟨b, 15, none⟩ = some (.bool true) := by have := h2.c_polling; rw [this]; exact congrArg (fun x => some (Value.bool x)) hp
        have K4 := hide (endPolling_any h2 nr hnr)
        have U2 := hide ((unhide U1).trans (Upd.of hb (Upd.refl i own w2)))
        obtain ⟨z0, z1, z2, z3, z4, z5⟩ := frBox ((hb.block w.heap.size hltx).trans (unhide BX))
        clear hb K2 BX U1 H1 h2 hp
        go_wp2_with fail
        refine (unhide K4).mono ?_
        rintro e w3 ⟨rfl, own3, h3, u3⟩
        have HR := hide (And.intro h3 ((unhide U2).trans u3))
        clear h3 u3 K4 U2
        go_wp2
        first | go_end0 | refine bodyPost_ret (results_none rfl _ _ _) rfl ?_
        rw [unhide HD2]
        exact ⟨rfl, own3, (unhide HR).1, (unhide HR).2⟩
      · have HD2 := hide ((unhide HD3).trans (if_neg hp))
        have hp' : s.polling = false := eq_false_of_ne_true hp
        clear HD3
        go_enter Tryz.func170, Tryz.ntmps170
        go_wp2_with fail
        refine (unhide K2).mono ?_
        rintro e w2 ⟨rfl, hb⟩
        have h2 := (unhide H1).later hb
        have d15 : w2.cell? ⟨b, 15, none⟩ = some (.bool false) := by have := h2.c_polling; rw [this]; exact congrArg (fun x => some (Value.bool x)) hp'
        have HR := hide (And.intro h2 ((unhide U1).trans (Upd.of hb (Upd.refl i own w2))))
        clear hb K2 BX U1 H1 h2 hp hp'
        go_wp2
        first | go_end0 | refine bodyPost_ret (results_none rfl _ _ _) rfl ?_
        rw [unhide HD2]
        exact ⟨rfl, own, ⟨_, _, _, _, _, _, _, _, (unhide HR).1⟩, (unhide HR).2⟩
set_option maxHeartbeats 4000000 in
set_option maxRecDepth 100000 in
theorem hearReady3_any (h : SAt w own i b c s cl ch q cm o ev qe ce oe) (fa fns : Int) (fp : Bool) (nr : Nat) (info : Msg) (fq : Option Addr) (fc : Nat) (hnr : nr < c.m) (hl : s.out.length ≤ 2199023255552) :
    Calls Tryz.prog 170 #[.pointer (some ⟨b, 0, none⟩), frV ⟨fa, 3, fp, fns, (nr : Nat), info⟩ fq fc] w fun e w' => Did i b c (hearReady c ⟨fa, 3, fp, fns, (nr : Nat), info⟩ s) cl own w e w' := by
  have hlt := h.lt
  have c16 := h.c_peer
  have c8 := h.c_vs
  have fz := h.fz
  have hsk := h.sok
  have hS : Keeps (· = b) w (w.setCell ⟨b, 16, none⟩ (.bool true)) := (Keeps.refl _ _).setB 16 (.bool true)
  have h0 := h.wrote (s' := { s with peer := true }) hS (h.hd.peer true) rfl rfl rfl rfl ⟨hsk.state, hsk.vs, hsk.va, hsk.vr, hsk.vm, hsk.q20, hsk.q32, hsk.timer, hsk.tries, hsk.came⟩
  have h1 := h0.later (w' := ((w.setCell ⟨b, 16, none⟩ (.bool true)).alloc (.cells #[.int .i64 fa, .int .i64 (3 : Int), .bool fp, .int .i64 fns, .int .i64 (nr : Nat), .slice fq info.length fc] 30))) ((Below.refl _ _).alloc (Nat.le_refl _) _)
  have u1 : Upd i own own w ((w.setCell ⟨b, 16, none⟩ (.bool true)).alloc (.cells #[.int .i64 fa, .int .i64 (3 : Int), .bool fp, .int .i64 fns, .int .i64 (nr : Nat), .slice fq info.length fc] 30)) := (h.upd hS).trans (Upd.of ((Below.refl _ _).alloc (Nat.le_refl _) _) (Upd.refl _ _ _))
  have hsz0 : (w.setCell ⟨b, 16, none⟩ (.bool true)).heap.size = w.heap.size := by rw [size_setCell]
  have hbx : ((w.setCell ⟨b, 16, none⟩ (.bool true)).alloc (.cells #[.int .i64 fa, .int .i64 (3 : Int), .bool fp, .int .i64 fns, .int .i64 (nr : Nat), .slice fq info.length fc] 30)).heap[w.heap.size]? = some (.cells #[.int .i64 fa, .int .i64 (3 : Int), .bool fp, .int .i64 fns, .int .i64 (nr : Nat), .slice fq info.length fc] 30) := by rw [← hsz0]; exact alloc1_a _ _
  have hltx : w.heap.size < ((w.setCell ⟨b, 16, none⟩ (.bool true)).alloc (.cells #[.int .i64 fa, .int .i64 (3 : Int), .bool fp, .int .i64 fns, .int .i64 (nr : Nat), .slice fq info.length fc] 30)).heap.size := by rw [alloc1_s, hsz0]; omega
  have hdef : hearReady c (⟨fa, 3, fp, fns, (nr : Nat), info⟩ : Fr) s = if fp = false then { s with peer := true } else if isCmd c (⟨fa, 3, fp, fns, (nr : Nat), info⟩ : Fr) then answer c true { s with peer := true } else if s.polling then { { s with peer := true } with polling := false, vs := nr, timer := 0 } else { s with peer := true } := by
    unfold hearReady
    simp
  have hk := isCommand_any h1 (⟨fa, 3, fp, fns, (nr : Nat), info⟩ : Fr) fq fc
  unfold frV at hk ⊢
  simp only at hk hbx ⊢
  generalize hx : isCmd c (⟨fa, 3, fp, fns, (nr : Nat), info⟩ : Fr) = x at hk hdef
  have K2 := hide hk
  have H1 := hide h1
  have U1 := hide u1
  have BX := hide hbx
  have HD := hide hdef
  clear h h0 h1 u1 hk hdef hbx hS hx hsk hsz0
  have hne : w.heap.size ≠ b := by omega
  cases fp with
  | false =>
    have HD2 := hide ((unhide HD).trans (if_pos rfl))
    clear HD K2
    go_enter Tryz.func170, Tryz.ntmps170
    go_wp2
    first | go_end0 | refine bodyPost_ret (results_none rfl _ _ _) rfl ?_
    rw [unhide HD2]
    exact ⟨rfl, own, ⟨_, _, _, _, _, _, _, _, unhide H1⟩, unhide U1⟩
  | true =>
    have HD1 := hide ((unhide HD).trans (if_neg (by simp)))
    clear HD
    cases x with
    | true =>
      have HD2 := hide ((unhide HD1).trans (if_pos rfl))
      clear HD1
      go_enter Tryz.func170, Tryz.ntmps170
      go_wp2_with fail
      refine (unhide K2).mono ?_
      rintro e w2 ⟨rfl, hb⟩
      have K4 := hide (answer_any ((unhide H1).later hb) true hl)
      have U2 := hide ((unhide U1).trans (Upd.of hb (Upd.refl i own w2)))
      clear hb K2 BX U1 H1
      go_wp2_with fail
      refine (unhide K4).mono ?_
      rintro e w3 ⟨rfl, own3, h3, u3⟩
      have HR := hide (And.intro h3 ((unhide U2).trans u3))
      clear h3 u3 K4 U2
      go_wp2
      first | go_end0 | refine bodyPost_ret (results_none rfl _ _ _) rfl ?_
      rw [unhide HD2]
      exact ⟨rfl, own3, (unhide HR).1, (unhide HR).2⟩
    | false =>
      have HD3 := hide ((unhide HD1).trans (if_neg (by simp)))
      clear HD1
      by_cases hp : s.polling = true
      · have HD2 := hide ((unhide HD3).trans (if_pos hp))
        clear HD3
        go_enter Tryz.func170, Tryz.ntmps170
        go_wp2_with fail
        refine (unhide K2).mono ?_
        rintro e w2 ⟨rfl, hb⟩
        have h2 := (unhide H1).later hb
        have d15 : w2.cell? ⟨b, 15, none⟩ = some (.bool true) := by have := h2.c_polling; rw [this]; exact congrArg (fun x => some (Value.bool x)) hp
        have K4 := hide (endPolling_any h2 nr hnr)
        have U2 := hide ((unhide U1).trans (Upd.of hb (Upd.refl i own w2)))
        obtain ⟨z0, z1, z2, z3, z4, z5⟩ := frBox ((hb.block w.heap.size hltx).trans (unhide BX))
        clear hb K2 BX U1 H1 h2 hp
        go_wp2_with fail
        refine (unhide K4).mono ?_
        rintro e w3 ⟨rfl, own3, h3, u3⟩
        have HR := hide (And.intro h3 ((unhide U2).trans u3))
        clear h3 u3 K4 U2
        go_wp2
        first | go_end0 | refine bodyPost_ret (results_none rfl _ _ _) rfl ?_
        rw [unhide HD2]
        exact ⟨rfl, own3, (unhide HR).1, (unhide HR).2⟩
      · have HD2 := hide ((unhide HD3).trans (if_neg hp))
        have hp' : s.polling = false := eq_false_of_ne_true hp
        clear HD3
        go_enter Tryz.func170, Tryz.ntmps170
        go_wp2_with fail
        refine (unhide K2).mono ?_
        rintro e w2 ⟨rfl, hb⟩
        have h2 := (unhide H1).later hb
        have d15 : w2.cell? ⟨b, 15, none⟩ = some (.bool false) := by have := h2.c_polling; rw [this]; exact congrArg (fun x => some (Value.bool x)) hp'
        have HR := hide (And.intro h2 ((unhide U1).trans (Upd.of hb (Upd.refl i own w2))))
        clear hb K2 BX U1 H1 h2 hp hp'
        go_wp2
        first | go_end0 | refine bodyPost_ret (results_none rfl _ _ _) rfl ?_
        rw [unhide HD2]
        exact ⟨rfl, own, ⟨_, _, _, _, _, _, _, _, (unhide HR).1⟩, (unhide HR).2⟩
set_option maxHeartbeats 4000000 in
set_option maxRecDepth 100000 in
theorem hearReady4_any (h : SAt w own i b c s cl ch q cm o ev qe ce oe) (fa fns : Int) (fp : Bool) (nr : Nat) (info : Msg) (fq : Option Addr) (fc : Nat) (hnr : nr < c.m) (hl : s.out.length ≤ 2199023255552) :
    Calls Tryz.prog 170 #[.pointer (some ⟨b, 0, none⟩), frV ⟨fa, 4, fp, fns, (nr : Nat), info⟩ fq fc] w fun e w' => Did i b c (hearReady c ⟨fa, 4, fp, fns, (nr : Nat), info⟩ s) cl own w e w' := by
  have hlt := h.lt
  have c16 := h.c_peer
  have c8 := h.c_vs
  have fz := h.fz
  have hsk := h.sok
  have hS : Keeps (· = b) w ((w.setCell ⟨b, 16, none⟩ (.bool false)).setCell ⟨b, 8, none⟩ (.int .i64 (nr : Nat))) := ((Keeps.refl _ _).setB 16 (.bool false)).setB 8 (.int .i64 (nr : Nat))
  have h0 := h.wrote (s' := { s with peer := false, vs := nr }) hS ((h.hd.peer false).vs nr) rfl rfl rfl rfl ⟨hsk.state, hnr, hsk.va, hsk.vr, hsk.vm, hsk.q20, hsk.q32, hsk.timer, hsk.tries, hsk.came⟩
  have h1 := h0.later (w' := (((w.setCell ⟨b, 16, none⟩ (.bool false)).setCell ⟨b, 8, none⟩ (.int .i64 (nr : Nat))).alloc (.cells #[.int .i64 fa, .int .i64 (4 : Int), .bool fp, .int .i64 fns, .int .i64 (nr : Nat), .slice fq info.length fc] 30))) ((Below.refl _ _).alloc (Nat.le_refl _) _)
  have u1 : Upd i own own w (((w.setCell ⟨b, 16, none⟩ (.bool false)).setCell ⟨b, 8, none⟩ (.int .i64 (nr : Nat))).alloc (.cells #[.int .i64 fa, .int .i64 (4 : Int), .bool fp, .int .i64 fns, .int .i64 (nr : Nat), .slice fq info.length fc] 30)) := (h.upd hS).trans (Upd.of ((Below.refl _ _).alloc (Nat.le_refl _) _) (Upd.refl _ _ _))
  have hsz0 : ((w.setCell ⟨b, 16, none⟩ (.bool false)).setCell ⟨b, 8, none⟩ (.int .i64 (nr : Nat))).heap.size = w.heap.size := by rw [size_setCell, size_setCell]
  have hbx : (((w.setCell ⟨b, 16, none⟩ (.bool false)).setCell ⟨b, 8, none⟩ (.int .i64 (nr : Nat))).alloc (.cells #[.int .i64 fa, .int .i64 (4 : Int), .bool fp, .int .i64 fns, .int .i64 (nr : Nat), .slice fq info.length fc] 30)).heap[w.heap.size]? = some (.cells #[.int .i64 fa, .int .i64 (4 : Int), .bool fp, .int .i64 fns, .int .i64 (nr : Nat), .slice fq info.length fc] 30) := by rw [← hsz0]; exact alloc1_a _ _
  have hltx : w.heap.size < (((w.setCell ⟨b, 16, none⟩ (.bool false)).setCell ⟨b, 8, none⟩ (.int .i64 (nr : Nat))).alloc (.cells #[.int .i64 fa, .int .i64 (4 : Int), .bool fp, .int .i64 fns, .int .i64 (nr : Nat), .slice fq info.length fc] 30)).heap.size := by rw [alloc1_s, hsz0]; omega
  have hdef : hearReady c (⟨fa, 4, fp, fns, (nr : Nat), info⟩ : Fr) s = if fp = false then { s with peer := false, vs := nr } else if isCmd c (⟨fa, 4, fp, fns, (nr : Nat), info⟩ : Fr) then answer c true { s with peer := false, vs := nr } else if s.polling then { { s with peer := false, vs := nr } with polling := false, vs := nr, timer := 0 } else { s with peer := false, vs := nr } := by
    unfold hearReady
    simp
  have hk := isCommand_any h1 (⟨fa, 4, fp, fns, (nr : Nat), info⟩ : Fr) fq fc
  unfold frV at hk ⊢
  simp only at hk hbx ⊢
  generalize hx : isCmd c (⟨fa, 4, fp, fns, (nr : Nat), info⟩ : Fr) = x at hk hdef
  have K2 := hide hk
  have H1 := hide h1
  have U1 := hide u1
  have BX := hide hbx
  have HD := hide hdef
  clear h h0 h1 u1 hk hdef hbx hS hx hsk hsz0
  have hne : w.heap.size ≠ b := by omega
  cases fp with
  | false =>
    have HD2 := hide ((unhide HD).trans (if_pos rfl))
    clear HD K2
    go_enter Tryz.func170, Tryz.ntmps170
    go_wp2
    first | go_end0 | refine bodyPost_ret (results_none rfl _ _ _) rfl ?_
    rw [unhide HD2]
    exact ⟨rfl, own, ⟨_, _, _, _, _, _, _, _, unhide H1⟩, unhide U1⟩
  | true =>
    have HD1 := hide ((unhide HD).trans (if_neg (by simp)))
    clear HD
    cases x with
    | true =>
      have HD2 := hide ((unhide HD1).trans (if_pos rfl))
      clear HD1
      go_enter Tryz.func170, Tryz.ntmps170
      go_wp2_with fail
      refine (unhide K2).mono ?_
      rintro e w2 ⟨rfl, hb⟩
      have K4 := hide (answer_any ((unhide H1).later hb) true hl)
      have U2 := hide ((unhide U1).trans (Upd.of hb (Upd.refl i own w2)))
      clear hb K2 BX U1 H1
      go_wp2_with fail
      refine (unhide K4).mono ?_
      rintro e w3 ⟨rfl, own3, h3, u3⟩
      have HR := hide (And.intro h3 ((unhide U2).trans u3))
      clear h3 u3 K4 U2
      go_wp2
      first | go_end0 | refine bodyPost_ret (results_none rfl _ _ _) rfl ?_
      rw [unhide HD2]
      exact ⟨rfl, own3, (unhide HR).1, (unhide HR).2⟩
    | false =>
      have HD3 := hide ((unhide HD1).trans (if_neg (by simp)))
      clear HD1
      by_cases hp : s.polling = true
      · have HD2 := hide ((unhide HD3).trans (if_pos hp))
        clear HD3
        go_enter Tryz.func170, Tryz.ntmps170
        go_wp2_with fail
        refine (unhide K2).mono ?_
        rintro e w2 ⟨rfl, hb⟩
        have h2 := (unhide H1).later hb
        have d15 : w2.cell? ⟨b, 15, none⟩ = some (.bool true) := by have := h2.c_polling; rw [this]; exact congrArg (fun x => some (Value.bool x)) hp
        have K4 := hide (endPolling_any h2 nr hnr)
        have U2 := hide ((unhide U1).trans (Upd.of hb (Upd.refl i own w2)))
        obtain ⟨z0, z1, z2, z3, z4, z5⟩ := frBox ((hb.block w.heap.size hltx).trans (unhide BX))
        clear hb K2 BX U1 H1 h2 hp
        go_wp2_with fail
        refine (unhide K4).mono ?_
        rintro e w3 ⟨rfl, own3, h3, u3⟩
        have HR := hide (And.intro h3 ((unhide U2).trans u3))
        clear h3 u3 K4 U2
        go_wp2
        first | go_end0 | refine bodyPost_ret (results_none rfl _ _ _) rfl ?_
        rw [unhide HD2]
        exact ⟨rfl, own3, (unhide HR).1, (unhide HR).2⟩
      · have HD2 := hide ((unhide HD3).trans (if_neg hp))
        have hp' : s.polling = false := eq_false_of_ne_true hp
        clear HD3
        go_enter Tryz.func170, Tryz.ntmps170
        go_wp2_with fail
        refine (unhide K2).mono ?_
        rintro e w2 ⟨rfl, hb⟩
        have h2 := (unhide H1).later hb
        have d15 : w2.cell? ⟨b, 15, none⟩ = some (.bool false) := by have := h2.c_polling; rw [this]; exact congrArg (fun x => some (Value.bool x)) hp'
        have HR := hide (And.intro h2 ((unhide U1).trans (Upd.of hb (Upd.refl i own w2))))
        clear hb K2 BX U1 H1 h2 hp hp'
        go_wp2
        first | go_end0 | refine bodyPost_ret (results_none rfl _ _ _) rfl ?_
        rw [unhide HD2]
        exact ⟨rfl, own, ⟨_, _, _, _, _, _, _, _, (unhide HR).1⟩, (unhide HR).2⟩
end
end Go.Proofs.YtkalonhalhdlaaaGreatDoor

/-
  A message that came: its bytes become the station's.
-/
namespace Go.Proofs.YtkalonhalhdlaaaGreatDoor
open Go.RowKit
/-- append, as one step of a region that draws; where its row lies. -/
theorem step_append_own_at {P : Program} (w : World) {ops : Array Oper} {o : Oper} {a : Act} {K : Act → World → Prop} {Q : Exit → Act → World → Prop} {E : Prop} (hgd : o.guard = none) (s x : Operand) (t : TypeId)
    (ho : o.op = .call { callee := .builtin .append, args := #[s, x], argTypes := #[t, t] })
    (base : Nat) (e : TypeId) (i : TypeInfo) (z : Value) (size bytes : Nat) (ht : P.underlying t = some (.slice e)) (hi : P.info? e = some i) (hz : i.zero = some z)
    (hsize : i.size = size) (hby : i.bytes = bytes) (hzs : z.cells.size = size) (hsz : 0 < size)
    (v : Value) (n : Nat) (xs : List Value) (hs : a.eval s = v) (hown : w.ownsRow base e size v n xs)
    (ad : Addr) (m c : Nat) (news : List Value) (hx : a.eval x = .slice (some ad) m c) (hl : news.length = m * size) (hnews : ∀ j u, news[j]? = some u → w.cell? (ad.add j) = some u) (h1 : ∀ u ∈ news, u.oneCell' = true)
    (h63 : n + m ≤ maxLen) (hbytes : (n + m) * bytes ≤ 140737488355328) (hbase : base ≤ w.heap.size)
    (h : ∀ v' w', w'.ownsRow base e size v' (n + m) (xs ++ news) → w.grownBy w' v.ownBlock → (v'.ownBlock = v.ownBlock ∨ v'.ownBlock = some w.heap.size) → K (a.put o.dst v') w') :
    if Region.wanted o (yielded ops a.tmps) = true then Oper.wp P o a w K Q else E := by
  have hw : Region.wanted o (yielded ops a.tmps) = true := by simp [Region.wanted, hgd]
  rw [if_pos hw]
  obtain ⟨v', w', hr, h2, h3, _, h5⟩ := run_append_own_at (P := P) w base t o.type e i z size bytes ht hi hz hsize hby hzs hsz v n xs hown ad m c news hl hnews h1 h63 hbytes hbase
  unfold Oper.wp execOp
  simp only [ho, resolve, invoke, builtin, Sem.run_bind, Sem.run_pure, Result.andThen_ok, List.map_toArray, List.map_cons, List.map_nil, hs, hx, hr]
  exact h v' w' h2 h3 h5
/-- As 'Upd', and block T, which was nobody's, may have become the station's. -/
structure UpdT (T : Option Nat) (i : Nat) (own own' : Nat → Nat) (w w' : World) : Prop where
  keeps : Keeps (fun k => (∃ p, p < 5 ∧ own k = tg i p) ∨ some k = T) w w'
  same : ∀ k, k < w.heap.size → some k ≠ T → own' k = own k
def DidT (T : Option Nat) (i b : Nat) (c : Cfg) (s' : St) (cl : Bool) (own : Nat → Nat) (w : World) (e : Ending) (w' : World) : Prop :=
  e = .returned (.tuple #[]) ∧ ∃ own', Stn w' own' i b c s' cl ∧ UpdT T i own own' w w'
theorem Upd.t {T : Option Nat} {i : Nat} {own own' : Nat → Nat} {w w' : World} (h : Upd i own own' w w') : UpdT T i own own' w w' := ⟨h.keeps.mono (fun _ hk => .inl hk), fun k hk _ => h.same k hk⟩
theorem Did.t {T : Option Nat} {i b : Nat} {c : Cfg} {s' : St} {cl : Bool} {own : Nat → Nat} {w : World} {e : Ending} {w' : World} (h : Did i b c s' cl own w e w') : DidT T i b c s' cl own w e w' := ⟨h.1, h.2.choose, h.2.choose_spec.1, h.2.choose_spec.2.t⟩
theorem UpdT.trans {T : Option Nat} {i : Nat} {o1 o2 o3 : Nat → Nat} {a b c : World} (h : UpdT T i o1 o2 a b) (k : Upd i o2 o3 b c) : UpdT T i o1 o3 a c := by
  refine ⟨⟨k.keeps.os.trans h.keeps.os, k.keeps.tape.trans h.keeps.tape, k.keeps.output.trans h.keeps.output, Nat.le_trans h.keeps.size k.keeps.size, fun j hj hx => ?_⟩, fun j hj hjT => (k.same j (Nat.lt_of_lt_of_le hj h.keeps.size)).trans (h.same j hj hjT)⟩
  refine (k.keeps.block j (Nat.lt_of_lt_of_le hj h.keeps.size) ?_).trans (h.keeps.block j hj hx)
  rintro ⟨p, hp, e⟩
  exact hx (.inl ⟨p, hp, (h.same j hj (fun e => hx (.inr e))).symm.trans e⟩)
theorem Upd.transT {T : Option Nat} {i : Nat} {o1 o2 o3 : Nat → Nat} {a b c : World} (h : Upd i o1 o2 a b) (k : UpdT T i o2 o3 b c) : UpdT T i o1 o3 a c := by
  refine ⟨⟨k.keeps.os.trans h.keeps.os, k.keeps.tape.trans h.keeps.tape, k.keeps.output.trans h.keeps.output, Nat.le_trans h.keeps.size k.keeps.size, fun j hj hx => ?_⟩, fun j hj hjT => (k.same j (Nat.lt_of_lt_of_le hj h.keeps.size) hjT).trans (h.same j hj)⟩
  refine (k.keeps.block j (Nat.lt_of_lt_of_le hj h.keeps.size) ?_).trans (h.keeps.block j hj (fun hh => hx (.inl hh)))
  rintro (⟨p, hp, e⟩ | e)
  · exact hx (.inl ⟨p, hp, (h.same j hj).symm.trans e⟩)
  · exact hx (.inr e)
/-- Behind what made block T: it is new. -/
theorem UpdT.new {T : Option Nat} {i : Nat} {own own' : Nat → Nat} {w W w' : World} (hb : Below w.heap.size w W) (h : UpdT T i own own' W w') (hT : ∀ k, T = some k → w.heap.size ≤ k) : Upd i own own' w w' :=
  ⟨⟨h.keeps.os.trans hb.os, h.keeps.tape.trans hb.tape, h.keeps.output.trans hb.output, Nat.le_trans hb.size h.keeps.size, fun k hk hx => (h.keeps.block k (Nat.lt_of_lt_of_le hk hb.size) (by rintro (hh | e); exact hx hh; have := hT k e.symm; omega)).trans (hb.block k hk)⟩, fun k hk => h.same k (Nat.lt_of_lt_of_le hk hb.size) (fun e => by have := hT k e.symm; omega)⟩
section
variable {w W : World} {own : Nat → Nat} {i b : Nat} {c : Cfg} {s : St} {cl : Bool} {ch : Nat} {q cm o ev : Value} {qe ce oe : List Value}
theorem SAt.headAfterW (h : SAt w own i b c s cl ch q cm o ev qe ce oe) {w1 w3 : World} {v : Value} (hb : Below w.heap.size w w1) (hg : w1.grownBy w3 v.ownBlock) (hv : ∀ k, v.ownBlock = some k → own k ≠ tg i 0) : w3.heap[b]? = some (.cells (stCells c s ch q cm o ev) 135 (0, 0)) := by
  have hlt := h.lt
  have hz := hb.size
  rw [hg.block b (by omega) (fun e => hv b e.symm h.ownb), hb.block b hlt]
  exact h.head
/-- A block of nobody's behind a row's growing. -/
theorem free_kept {own : Nat → Nat} {w w1 w3 : World} {v : Value} {t k : Nat} {x : Obj} (hb : Below w.heap.size w w1) (hg : w1.grownBy w3 v.ownBlock) (hv : ∀ k, v.ownBlock = some k → own k = t) (ht : t ≠ 0) (h0 : own k = 0) (hx : w.heap[k]? = some x) : w3.heap[k]? = some x := by
  have hlt := (Array.getElem?_eq_some_iff.1 hx).1
  have hz := hb.size
  rw [hg.block k (by omega) (fun e => ht ((hv k e.symm).symm.trans h0)), hb.block k hlt]
  exact hx
/-- A free block is station i's from now on; new ones too. -/
def ownTake (own : Nat → Nat) (n n' t : Nat) (T : Option Nat) : Nat → Nat := fun k => if some k = T then t else ownNew own n n' t k
/-- Row cm has grown by one that was nobody's, and the station's block is written. -/
theorem SAt.cameIn (h : SAt w own i b c s cl ch q cm o ev qe ce oe) {v cm' : Value} {m : Msg} {w2 w3 : World}
    (hv : w.ownsRow 0 5 1 v m.length (Lib.byteCells m)) (hfree : ∀ k, v.ownBlock = some k → own k = 0 ∧ k ≠ 0)
    (hb2 : Below w.heap.size w w2) (hg : w2.grownBy w3 cm.ownBlock) (hrow : w3.ownsRow 0 28 1 cm' (s.came.length + 1) (ce ++ [v]))
    (hob : cm'.ownBlock = cm.ownBlock ∨ ∃ k, cm'.ownBlock = some k ∧ w2.heap.size ≤ k) (hroom : s.came.length + 1 ≤ c.room) :
    SAt (w3.setCell ⟨b, 19, none⟩ cm') (ownTake own w.heap.size w3.heap.size (tg i 2) v.ownBlock) i b c { s with came := s.came ++ [m] } cl ch q cm' o ev qe (ce ++ [v]) oe ∧ UpdT v.ownBlock i own (ownTake own w.heap.size w3.heap.size (tg i 2) v.ownBlock) w (w3.setCell ⟨b, 19, none⟩ cm') := by
  have hz2 := hb2.size
  have hz3 := hg.size
  have hvlt := World.ownsRow.lt hv
  have hob' : ∀ k, cm'.ownBlock = some k → own k = tg i 2 ∨ w.heap.size ≤ k := by
    intro k hk
    rcases hob with e | ⟨k2, e, h2⟩
    · rw [e] at hk; exact .inl (h.lcm.rown k hk)
    · rw [e] at hk; simp at hk; omega
  have hK2 : Keeps (fun k => some k = cm.ownBlock) w w3 := (Keeps.of hb2).trans (Keeps.grown hg)
  have hro : ∀ k, some k = cm.ownBlock → own k = tg i 2 := fun k hk => h.lcm.rown k hk.symm
  have hold : ∀ k, k < w.heap.size → own k ≠ 0 → ownTake own w.heap.size w3.heap.size (tg i 2) v.ownBlock k = own k := fun k hk h0 => by
    unfold ownTake
    rw [if_neg (fun e => h0 (hfree k e.symm).1)]
    exact ownNew_old hk
  have hold0 : ownTake own w.heap.size w3.heap.size (tg i 2) v.ownBlock 0 = 0 := by
    unfold ownTake
    rw [if_neg (fun e => (hfree 0 e.symm).2 rfl), ownNew_old h.pos]
    exact h.own0
  have hbr : ¬ some b = cm.ownBlock := fun e => by have := hro b e; rw [h.ownb] at this; exact tg_ne (by omega) (by omega) (.inr (by omega)) this
  have hlt := h.lt
  have hhead3 : w3.heap[b]? = some (.cells (stCells c s ch q cm o ev) 135 (0, 0)) := by rw [hK2.block b hlt hbr]; exact h.head
  have hKb : Keeps (· = b) w3 (w3.setCell ⟨b, 19, none⟩ cm') := (Keeps.refl _ w3).setB _ _
  have hK : Keeps (fun k => some k = cm.ownBlock ∨ k = b) w (w3.setCell ⟨b, 19, none⟩ cm') := (hK2.mono (fun _ h => .inl h)).trans (hKb.mono (fun _ h => .inr h))
  have hne : ∀ p, p < 5 → p ≠ 0 → p ≠ 2 → ∀ k, (some k = cm.ownBlock ∨ k = b) → own k ≠ tg i p := by
    intro p hp h0 h3 k hk
    rcases hk with hk | hk
    · rw [hro k hk]; exact tg_ne (by omega) hp (.inr (by omega))
    · rw [hk, h.ownb]; exact tg_ne (by omega) hp (.inr (by omega))
  have hlc := (Array.getElem?_eq_some_iff.1 h.chan).1
  have hcb : ch ≠ b := fun e => by have := h.head; rw [← e, h.chan] at this; simp at this
  have hco : ¬ some ch = cm.ownBlock := fun e => by have := hro ch e; rw [h.ownc] at this; exact tg_ne (by omega) (by omega) (.inr (by omega)) this
  -- lists of other parts
  have hlst : ∀ p, p < 5 → p ≠ 0 → p ≠ 2 → ∀ v' es l, Lst w own (tg i p) v' es l → Lst (w3.setCell ⟨b, 19, none⟩ cm') (ownTake own w.heap.size w3.heap.size (tg i 2) v.ownBlock) (tg i p) v' es l := by
    intro p hp h0 h2 v' es l hL
    have hkk := hL.keeps (own' := own) hK (hne p hp h0 h2) (fun _ _ => rfl)
    refine ⟨hkk.row, fun k hk => ?_, fun j x mm h1 h2 => ⟨(hkk.each j x mm h1 h2).1, fun k hk => ?_⟩, hL.apart⟩
    · rw [hold k (World.ownsRow.lt hL.row k hk).2 (by rw [hL.rown k hk]; exact tg_pos _ _)]; exact hL.rown k hk
    · have hx := hL.each j x mm h1 h2
      rw [hold k (World.ownsRow.lt hx.1 k hk).2 (by rw [hx.2 k hk]; exact tg_pos _ _)]; exact hx.2 k hk
  refine ⟨⟨?_, (hold b hlt (by rw [h.ownb]; exact tg_pos _ _)).trans h.ownb, ?_, (hold ch hlc (by rw [h.ownc]; exact tg_pos _ _)).trans h.ownc, hlst 1 (by omega) (by omega) (by omega) _ _ _ h.lq, ?_, hlst 3 (by omega) (by omega) (by omega) _ _ _ h.lo, ?_, ?_, ?_, hold0, ?_, h.cok, ⟨h.sok.state, h.sok.vs, h.sok.va, h.sok.vr, h.sok.vm, h.sok.q20, h.sok.q32, h.sok.timer, h.sok.tries, by show (s.came ++ [m]).length ≤ c.room; rw [List.length_append]; exact hroom⟩⟩, ⟨?_, ?_⟩⟩
  · exact block_set hhead3 cm'
  · rw [hK.block ch hlc (fun hx => by rcases hx with hx | hx; exact hco hx; exact hcb hx)]; exact h.chan
  · refine ⟨?_, ?_, ?_, h.lcm.snoc (fun k hk e => by rw [(hfree k hk).1] at e; exact tg_pos _ _ e.symm)⟩
    · have : (s.came ++ [m]).length = s.came.length + 1 := by simp
      rw [this]
      refine ownsRow_keepsB hrow hKb (fun k hk e => ?_)
      rcases hob' k hk with h1 | h1
      · rw [e, h.ownb] at h1; exact tg_ne (by omega) (by omega) (.inr (by omega)) h1
      · omega
    · intro k hk
      by_cases hT : some k = v.ownBlock
      · simp [ownTake, hT]
      · unfold ownTake
        rw [if_neg hT]
        rcases hob with e | ⟨k2, e, h2⟩
        · rw [e] at hk
          rw [ownNew_old (World.ownsRow.lt h.lcm.row k hk).2]
          exact h.lcm.rown k hk
        · rw [e] at hk
          simp at hk
          have h4 := (World.ownsRow.lt hrow k2 e).2
          exact ownNew_new (by omega) (by omega)
    · intro j x mm h1 h2
      have hl := h.lcm.len
      by_cases hj : j < ce.length
      · rw [List.getElem?_append_left hj] at h1
        rw [List.getElem?_append_left (by omega)] at h2
        have hx := h.lcm.each j x mm h1 h2
        refine ⟨ownsRow_keepsB hx.1 hK (fun k hk hX => ?_), fun k hk => ?_⟩
        · rcases hX with hX | hX
          · obtain ⟨c1, e1⟩ := ownsRow_isRow h.lcm.row hX.symm
            obtain ⟨c2, e2⟩ := ownsRow_isRow hx.1 hk
            rw [e1] at e2
            simp at e2
          · have := hx.2 k hk
            rw [hX, h.ownb] at this
            exact tg_ne (by omega) (by omega) (.inr (by omega)) this
        · rw [hold k (World.ownsRow.lt hx.1 k hk).2 (by rw [hx.2 k hk]; exact tg_pos _ _)]; exact hx.2 k hk
      · rw [List.getElem?_append_right (by omega)] at h1
        rw [List.getElem?_append_right (by omega)] at h2
        rw [hl] at h1
        obtain ⟨jj, hjj⟩ : ∃ jj, j - s.came.length = jj := ⟨_, rfl⟩
        rw [hjj] at h1 h2
        rcases jj with _ | jj
        · simp at h1 h2
          subst h1 h2
          refine ⟨ownsRow_keepsB hv hK (fun k hk hX => ?_), fun k hk => by simp [ownTake, hk]⟩
          have h0 := (hfree k hk).1
          rcases hX with hX | hX
          · rw [hro k hX] at h0; exact tg_pos _ _ h0
          · rw [hX, h.ownb] at h0; exact tg_pos _ _ h0
        · simp at h1
  · exact ownsRow_keepsB h.lev hK (fun k hk hX => hne 4 (by omega) (by omega) (by omega) k hX (h.owne k hk))
  · exact fun k hk => (hold k (World.ownsRow.lt h.lev k hk).2 (by rw [h.owne k hk]; exact tg_pos _ _)).trans (h.owne k hk)
  · refine h.ctl.keeps hK h.pos (fun hx => ?_)
    rcases hx with hx | hx
    · have := hro 0 hx; rw [h.own0] at this; exact tg_pos _ _ this.symm
    · have := h.ownb; rw [← hx, h.own0] at this; exact tg_pos _ _ this.symm
  · intro k hk
    rw [size_setCell] at hk
    unfold ownTake
    rw [if_neg (fun e => by have := (hvlt k e.symm).2; omega)]
    exact ownNew_0 (by omega) hk
  · exact hK.mono (fun k hk => by rcases hk with hk | hk; exact .inl ⟨2, by omega, hro k hk⟩; exact .inl ⟨0, by omega, by rw [hk]; exact h.ownb⟩)
  · intro k hk hT
    unfold ownTake
    rw [if_neg hT]
    exact ownNew_old hk
end
end Go.Proofs.YtkalonhalhdlaaaGreatDoor

/-
  What one call of the book's keeps does.
-/
namespace Go.Proofs.YtkalonhalhdlaaaGreatDoor
open Go.RowKit
theorem infoBytes : (Tryz.prog.info? 28).map (fun i => (i.zero, i.size, i.bytes)) = some (some (.slice none 0 0), 1, 24) := by kernel_rfl
theorem ownsRow_slice {w : World} {base : Nat} {e : TypeId} {size : Nat} {v : Value} {n : Nat} {xs : List Value} (h : w.ownsRow base e size v n xs) : ∃ p cap, v = .slice p n cap ∧ (0 < n → ∃ g, p = some ⟨g, 0, none⟩) := by
  rcases h.2 with ⟨hv, hn⟩ | ⟨g, cap, cur, hv, _⟩
  · exact ⟨none, 0, by rw [hv, hn], fun h => by omega⟩
  · exact ⟨_, cap, hv, fun _ => ⟨g, rfl⟩⟩
theorem reps_put (a : Value) (xs : List Value) (k : Nat) (hk : k < xs.length) : (reps [a] k ++ xs.drop k).set k a = reps [a] (k + 1) ++ xs.drop (k + 1) := by
  have hl : (reps [a] k).length = k := by rw [reps_length]; simp
  rw [List.set_append_right _ _ (by omega), hl, Nat.sub_self, List.drop_eq_getElem_cons hk, List.set_cons_zero, reps_add]
  simp [reps]
theorem mark_step {w wr : World} {X : Nat → Prop} {wb g n cp k : Nat} {cs : Array Value} {S : TypeId} {bs : Value} {ents ys : List Value} {u : Value} (hS : S ≠ 5)
    (hv : wr.ownsRow 0 5 1 (.slice (some ⟨g, 0, none⟩) n cp) n ys) (hW : WAt wr wb cs) (hrow : wr.ownsRow 0 S 1 bs ents.length ents) (hkp : Keeps X w wr) (hm : Mine X w.heap.size (.slice (some ⟨g, 0, none⟩) n cp)) :
    (wr.setCell ⟨g, k, none⟩ u).ownsRow 0 5 1 (.slice (some ⟨g, 0, none⟩) n cp) n (ys.set k u) ∧ WAt (wr.setCell ⟨g, k, none⟩ u) wb cs ∧ (wr.setCell ⟨g, k, none⟩ u).ownsRow 0 S 1 bs ents.length ents ∧ Keeps X w (wr.setCell ⟨g, k, none⟩ u) := by
  have hst := hv.stored k u
  obtain ⟨c, hg⟩ := ownsRow_isRow hv (k := g) rfl
  have hK : Keeps (· = g) wr (wr.setCell ⟨g, k, none⟩ u) := (Keeps.refl _ wr).setB _ _
  refine ⟨hst.1, hW.keeps hK (fun e => ?_), ownsRow_keeps hrow hK (fun i hi c2 fz hc => ?_), hkp.mine hm hst.2⟩
  · have h3 := hW
    unfold WAt at h3
    rw [e, hg] at h3
    simp at h3
  · subst hi
    rw [hg] at hc
    simp at hc
    exact hS hc.2.1.symm
set_option maxHeartbeats 4000000 in
set_option maxRecDepth 1000000 in
theorem keeps_any (wb : Nat) (X : Nat → Prop) (hX : X wb) (hs ss bs fs ls is v : Value) (ents xs : List Value) (n : Nat) (w : World)
    (hW : WAt w wb #[hs, ss, bs, fs, ls, is]) (hrow : w.ownsRow 0 28 1 bs ents.length ents) (hv : w.ownsRow 0 5 1 v n xs) (hmb : Mine X w.heap.size bs) (hmv : Mine X w.heap.size v)
    (hN : ents.length ≤ 4000000000000) (hn : n ≤ 1099511627776) :
    Calls Tryz.prog 34 #[.pointer (some ⟨wb, 2, none⟩), v] w fun e w' => e = .returned (.tuple #[]) ∧ ∃ bs' v1 v2 v3,
      KInv w X wb w' #[hs, ss, bs', fs, ls, is] 5 28 bs' (ents ++ [v, v1, v2, v3]) [.int .u8 (markN ents.length : Nat)] [(v, n), (v1, n + 1), (v2, n + 2), (v3, n + 3)] := by
  obtain ⟨i0, hi, hz0, hz1, hz2⟩ := info_parts infoByte
  obtain ⟨i1, hi1, hy0, hy1, hy2⟩ := info_parts infoBytes
  obtain ⟨bp, bc, rfl, _⟩ := ownsRow_slice hrow
  obtain ⟨p, cp, rfl, hpg⟩ := ownsRow_slice hv
  have c2 := hW.cell 2 _ rfl
  have hxl : xs.length = n := by have := hv.1; omega
  have HMK := hide (mark_any ents.length w (by unfold maxLen; omega))
  have HW := hide hW
  have HR := hide hrow
  have HV := hide hv
  have HMB := hide hmb
  have HMV := hide hmv
  clear hW hrow hv hmb hmv
  generalize hmk : markN ents.length = mk at HMK
  go_enter Tryz.func34, Tryz.ntmps34
  go_wp2_with fail
  refine (unhide HMK).mono ?_
  rintro e W1 ⟨rfl, hW1⟩
  subst hW1
  clear HMK
  go_wp2
  go_loopw [5] (fun i wr => ∃ k : Nat, k ≤ n ∧ i = .int .i64 k ∧ wr.ownsRow 0 5 1 (.slice p n cp) n (reps [.int .u8 (mk : Nat)] k ++ xs.drop k) ∧ WAt wr wb #[hs, ss, .slice bp ents.length bc, fs, ls, is] ∧ wr.ownsRow 0 28 1 (.slice bp ents.length bc) ents.length ents ∧ Keeps X W1 wr) (fun i _ => n - (intOf i).toNat)
  case atStart => exact ⟨0, Nat.zero_le _, rfl, by simpa [reps] using unhide HV, unhide HW, unhide HR, Keeps.refl _ _⟩
  case round =>
    clear HV HW HR c2
    obtain ⟨k, hk, rfl, hv, hW, hrow, hkp⟩ := hrel
    by_cases hlt : k < n
    · obtain ⟨g, rfl⟩ := hpg (by omega)
      have hlen : (reps [Value.int .u8 (mk : Nat)] k ++ xs.drop k).length = n := by have := hv.1; omega
      obtain ⟨x0, hx0⟩ : ∃ x0, (reps [Value.int .u8 (mk : Nat)] k ++ xs.drop k)[k]? = some x0 := ⟨_, List.getElem?_eq_getElem (by omega)⟩
      have c0 := (hv.cellAt k (by omega)).trans hx0
      have fz := hv.frozenAt
      have hst := mark_step (k := k) (u := .int .u8 (mk : Nat)) (by decide) hv hW hrow hkp (unhide HMV)
      rw [reps_put _ _ _ (by omega)] at hst
      have HS := hide hst
      clear hst hx0 hlen
      go_wp2
      go_roundw
      case rel =>
        obtain ⟨q1, q2, q3, q4⟩ := unhide HS
        exact ⟨k + 1, hlt, by go_num, q1, q2, q3, q4⟩
      case measure => simp [intOf]; omega
    · have hkn : k = n := by omega
      subst hkn
      have hd : xs.drop k = [] := List.drop_eq_nil_of_le (by omega)
      rw [hd, List.append_nil] at hv
      have hmk1 : MarksK wr 5 [.int .u8 (mk : Nat)] (.slice p k cp) k := hv
      have HK : Hid (KInv W1 X wb wr #[hs, ss, .slice bp ents.length bc, fs, ls, is] 5 28 (.slice bp ents.length bc) ents [.int .u8 (mk : Nat)] [(.slice p k cp, k)]) :=
        ⟨hW, hrow, fun u hu => by simp at hu; subst hu; exact hmk1, hkp, unhide HMB, fun u hu => by simp at hu; subst hu; exact unhide HMV⟩
      clear hv hd hW hrow hkp
      have ho : ∀ u ∈ [Value.int .u8 (mk : Nat)], u.oneCell' = true := by intro u hu; simp at hu; subst hu; rfl
      have HM0 := hide hmk1
      have hsz0 := (unhide HK).keeps.size
      clear hmk1
      have HA1 := hide (World.ownsRow.alloc (unhide HM0) (.cells #[.int .u8 (mk : Nat)] 5))
      go_wp2_with (at_builtin; refine wpList_append_marks _ rfl _ _ 28 rfl 5 i0 _ 1 [.int .u8 (mk : Nat)] Tryz.underlying28 hi hz0 hz1 hz2 rfl Nat.one_pos ho _ _ rfl (unhide HA1) ⟨wr.heap.size, 0, none⟩ 1 1 (by decide) rfl ?m1c1 ?m1c2 ?m1c3 ?_)
      case m1c1 => first | exact news1 wr _ _ | exact fun _ _ h => h
      case m1c2 => unfold maxLen; omega
      case m1c3 => omega
      intro v1 w1 hm1 hk1 hg1 hb1
      have HK1 := hide ((unhide HK).mark (by decide) (by decide) (unhide HM0) (unhide HMV) (by first | (simp; done) | (simp; omega)) hm1 hk1 hg1 (by rw [alloc1_s]; exact hb1))
      obtain ⟨p1, cp1, rfl, _⟩ := ownsRow_slice hm1
      have HM1 := hide ((unhide HK1).marks (.slice p k cp, k) (by simp))
      have hsz1 := (unhide HK1).keeps.size
      clear hm1 hk1 hg1 hb1 HA1 HM0 HK
      have HA2 := hide (World.ownsRow.alloc (unhide HM1) (.cells #[.int .u8 (mk : Nat), .int .u8 (mk : Nat)] 5))
      go_wp2_with (at_builtin; refine wpList_append_marks _ rfl _ _ 28 rfl 5 i0 _ 1 [.int .u8 (mk : Nat)] Tryz.underlying28 hi hz0 hz1 hz2 rfl Nat.one_pos ho _ _ rfl (unhide HA2) ⟨w1.heap.size, 0, none⟩ 2 2 (by decide) rfl ?m2c1 ?m2c2 ?m2c3 ?_)
      case m2c1 => first | exact news2 w1 _ _ _ | exact fun _ _ h => h
      case m2c2 => unfold maxLen; omega
      case m2c3 => omega
      intro v2 w2 hm2 hk2 hg2 hb2
      have HK2 := hide ((unhide HK1).mark (by decide) (by decide) (unhide HM1) (unhide HMV) (by first | (simp; done) | (simp; omega)) hm2 hk2 hg2 (by rw [alloc1_s]; exact hb2))
      obtain ⟨p2, cp2, rfl, _⟩ := ownsRow_slice hm2
      have HM2 := hide ((unhide HK2).marks (.slice p k cp, k) (by simp))
      have hsz2 := (unhide HK2).keeps.size
      clear hm2 hk2 hg2 hb2 HA2 HM1 HK1
      have HA3 := hide (World.ownsRow.alloc (unhide HM2) (.cells #[.int .u8 (mk : Nat), .int .u8 (mk : Nat), .int .u8 (mk : Nat)] 5))
      go_wp2_with (at_builtin; refine wpList_append_marks _ rfl _ _ 28 rfl 5 i0 _ 1 [.int .u8 (mk : Nat)] Tryz.underlying28 hi hz0 hz1 hz2 rfl Nat.one_pos ho _ _ rfl (unhide HA3) ⟨w2.heap.size, 0, none⟩ 3 3 (by decide) rfl ?m3c1 ?m3c2 ?m3c3 ?_)
      case m3c1 => first | exact news3 w2 _ _ _ _ | exact fun _ _ h => h
      case m3c2 => unfold maxLen; omega
      case m3c3 => omega
      intro v3 w3 hm3 hk3 hg3 hb3
      have HK3 := hide ((unhide HK2).mark (by decide) (by decide) (unhide HM2) (unhide HMV) (by first | (simp; done) | (simp; omega)) hm3 hk3 hg3 (by rw [alloc1_s]; exact hb3))
      obtain ⟨p3, cp3, rfl, _⟩ := ownsRow_slice hm3
      have HM3 := hide ((unhide HK3).marks (.slice p k cp, k) (by simp))
      have hsz3 := (unhide HK3).keeps.size
      clear hm3 hk3 hg3 hb3 HA3 HM2 HK2
      have d0 := (unhide HK3).head.cell 2 _ rfl
      have HB0 := hide (World.ownsRow.alloc (unhide HK3).row (.cells #[.slice p k cp] 28))
      go_wp2_with (at_builtin; refine wpList_append_own_at _ rfl _ _ 38 rfl 0 28 i1 _ 1 24 Tryz.underlying38 hi1 hy0 hy1 hy2 rfl (by decide) _ _ _ rfl (unhide HB0) ⟨w3.heap.size, 0, none⟩ 1 1 [.slice p k cp] rfl rfl ?p0c1 ?p0c2 ?p0c3 ?p0c4 ?p0c5 ?_)
      case p0c2 => first | rfl | (intro u hu; simp at hu; subst hu; rfl)
      case p0c3 => unfold maxLen; first | omega | (simp; omega)
      case p0c4 => first | omega | (simp; omega)
      intro b0 y0 hown0 hg0 _ hb0
      have hd0 := (unhide HK3).pushHead (by decide) hg0
      have e0 := hd0.cell 2 _ rfl
      have f0 := hd0.fz
      have HP0 : Hid (KInv W1 X wb (y0.setCell ⟨wb, 2, none⟩ b0) #[hs, ss, b0, fs, ls, is] 5 28 b0 (ents ++ [.slice p k cp]) [.int .u8 (mk : Nat)] _) := (unhide HK3).push hX (by decide) (by decide) (by decide) (by simpa using hown0) hg0 hb0 (by omega) 2
      obtain ⟨bp0, bc0, rfl, _⟩ := ownsRow_slice hown0
      have hyz0 : W1.heap.size ≤ y0.heap.size := by have := (unhide HP0).keeps.size; rwa [size_setCell] at this
      clear hown0 hg0 hb0 hd0 d0 HB0 HK3
      have d1 := (unhide HP0).head.cell 2 _ rfl
      have HB1 := hide (World.ownsRow.alloc (unhide HP0).row (.cells #[.slice p1 (k + 1) cp1] 28))
      go_wp2_with (at_builtin; refine wpList_append_own_at _ rfl _ _ 38 rfl 0 28 i1 _ 1 24 Tryz.underlying38 hi1 hy0 hy1 hy2 rfl (by decide) _ _ _ rfl (unhide HB1) ⟨y0.heap.size, 0, none⟩ 1 1 [.slice p1 (k + 1) cp1] rfl rfl ?p1c1 ?p1c2 ?p1c3 ?p1c4 ?p1c5 ?_)
      case p1c1 => have q := news1 (y0.setCell ⟨wb, 2, none⟩ (.slice bp0 (ents.length + 1) bc0)) (.slice p1 (k + 1) cp1) 28; rw [size_setCell] at q; exact q
      case p1c5 => exact Nat.zero_le _
      case p1c2 => first | rfl | (intro u hu; simp at hu; subst hu; rfl)
      case p1c3 => unfold maxLen; first | omega | (simp; omega)
      case p1c4 => first | omega | (simp; omega)
      intro b1 y1 hown1 hg1 _ hb1
      have hd1 := (unhide HP0).pushHead (by decide) hg1
      have e1 := hd1.cell 2 _ rfl
      have f1 := hd1.fz
      have HP1 : Hid (KInv W1 X wb (y1.setCell ⟨wb, 2, none⟩ b1) #[hs, ss, b1, fs, ls, is] 5 28 b1 (ents ++ [.slice p k cp] ++ [.slice p1 (k + 1) cp1]) [.int .u8 (mk : Nat)] _) := (unhide HP0).push hX (by decide) (by decide) (by decide) (by simpa using hown1) hg1 hb1 (by omega) 2
      obtain ⟨bp1, bc1, rfl, _⟩ := ownsRow_slice hown1
      have hyz1 : W1.heap.size ≤ y1.heap.size := by have := (unhide HP1).keeps.size; rwa [size_setCell] at this
      clear hown1 hg1 hb1 hd1 d1 HB1 HP0
      have d2 := (unhide HP1).head.cell 2 _ rfl
      have HB2 := hide (World.ownsRow.alloc (unhide HP1).row (.cells #[.slice p2 (k + 2) cp2] 28))
      go_wp2_with (at_builtin; refine wpList_append_own_at _ rfl _ _ 38 rfl 0 28 i1 _ 1 24 Tryz.underlying38 hi1 hy0 hy1 hy2 rfl (by decide) _ _ _ rfl (unhide HB2) ⟨y1.heap.size, 0, none⟩ 1 1 [.slice p2 (k + 2) cp2] rfl rfl ?p2c1 ?p2c2 ?p2c3 ?p2c4 ?p2c5 ?_)
      case p2c1 => have q := news1 (y1.setCell ⟨wb, 2, none⟩ (.slice bp1 (ents.length + 2) bc1)) (.slice p2 (k + 2) cp2) 28; rw [size_setCell] at q; exact q
      case p2c5 => exact Nat.zero_le _
      case p2c2 => first | rfl | (intro u hu; simp at hu; subst hu; rfl)
      case p2c3 => unfold maxLen; first | omega | (simp; omega)
      case p2c4 => first | omega | (simp; omega)
      intro b2 y2 hown2 hg2 _ hb2
      have hd2 := (unhide HP1).pushHead (by decide) hg2
      have e2 := hd2.cell 2 _ rfl
      have f2 := hd2.fz
      have HP2 : Hid (KInv W1 X wb (y2.setCell ⟨wb, 2, none⟩ b2) #[hs, ss, b2, fs, ls, is] 5 28 b2 (ents ++ [.slice p k cp] ++ [.slice p1 (k + 1) cp1] ++ [.slice p2 (k + 2) cp2]) [.int .u8 (mk : Nat)] _) := (unhide HP1).push hX (by decide) (by decide) (by decide) (by simpa using hown2) hg2 hb2 (by omega) 2
      obtain ⟨bp2, bc2, rfl, _⟩ := ownsRow_slice hown2
      have hyz2 : W1.heap.size ≤ y2.heap.size := by have := (unhide HP2).keeps.size; rwa [size_setCell] at this
      clear hown2 hg2 hb2 hd2 d2 HB2 HP1
      have d3 := (unhide HP2).head.cell 2 _ rfl
      have HB3 := hide (World.ownsRow.alloc (unhide HP2).row (.cells #[.slice p3 (k + 3) cp3] 28))
      go_wp2_with (at_builtin; refine wpList_append_own_at _ rfl _ _ 38 rfl 0 28 i1 _ 1 24 Tryz.underlying38 hi1 hy0 hy1 hy2 rfl (by decide) _ _ _ rfl (unhide HB3) ⟨y2.heap.size, 0, none⟩ 1 1 [.slice p3 (k + 3) cp3] rfl rfl ?p3c1 ?p3c2 ?p3c3 ?p3c4 ?p3c5 ?_)
      case p3c1 => have q := news1 (y2.setCell ⟨wb, 2, none⟩ (.slice bp2 (ents.length + 3) bc2)) (.slice p3 (k + 3) cp3) 28; rw [size_setCell] at q; exact q
      case p3c5 => exact Nat.zero_le _
      case p3c2 => first | rfl | (intro u hu; simp at hu; subst hu; rfl)
      case p3c3 => unfold maxLen; first | omega | (simp; omega)
      case p3c4 => first | omega | (simp; omega)
      intro b3 y3 hown3 hg3 _ hb3
      have hd3 := (unhide HP2).pushHead (by decide) hg3
      have e3 := hd3.cell 2 _ rfl
      have f3 := hd3.fz
      have HP3 : Hid (KInv W1 X wb (y3.setCell ⟨wb, 2, none⟩ b3) #[hs, ss, b3, fs, ls, is] 5 28 b3 (ents ++ [.slice p k cp] ++ [.slice p1 (k + 1) cp1] ++ [.slice p2 (k + 2) cp2] ++ [.slice p3 (k + 3) cp3]) [.int .u8 (mk : Nat)] _) := (unhide HP2).push hX (by decide) (by decide) (by decide) (by simpa using hown3) hg3 hb3 (by omega) 2
      obtain ⟨bp3, bc3, rfl, _⟩ := ownsRow_slice hown3
      have hyz3 : W1.heap.size ≤ y3.heap.size := by have := (unhide HP3).keeps.size; rwa [size_setCell] at this
      clear hown3 hg3 hb3 hd3 d3 HB3 HP2
      go_wp2
      have q := unhide HP3
      simp only [List.append_assoc, List.cons_append, List.nil_append] at q
      go_end0
      exact ⟨rfl, _, _, _, _, q⟩
end Go.Proofs.YtkalonhalhdlaaaGreatDoor

/-
  The book as a script's steps leave it; what one more list of bytes does to it; what is lent, whole.
-/
namespace Go.Proofs.YtkalonhalhdlaaaGreatDoor
open Go.RowKit
theorem mark_four {n : Nat} (h : n % 4 = 0) (j : Nat) (hj : j < 4) : markN (n + j) = markN n := by
  unfold markN
  have : (n + j) / 4 = n / 4 := by omega
  rw [this]
/-- What was lent: nothing, or a text's bytes and eight more of the caller's. -/
def LentAt (w : World) (B : Nat) (p : Option Addr) (c : Nat) (s : ByteArray) : Prop := (p = none ∧ c = 0 ∧ s.size = 0) ∨ ∃ g, p = some ⟨g, 0, none⟩ ∧ c = s.size + 8 ∧ B ≤ g ∧ RowIs w g (lentL s)
theorem LentAt.src {w : World} {B : Nat} {p : Option Addr} {c : Nat} {s : ByteArray} (h : LentAt w B p c s) : SrcIs w p s.data.toList := by
  rcases h with ⟨rfl, _, h0⟩ | ⟨g, rfl, _, _, h4⟩
  · refine .inl ⟨rfl, ?_⟩
    exact List.eq_nil_of_length_eq_zero (by simpa using h0)
  · refine .inr ⟨g, 0, rfl, h4.lt, ?_⟩
    have := h4.seg.take s.size
    have e : (lentL s).take s.size = s.data.toList := by
      have e2 : s.size = s.data.toList.length := by simp
      rw [lentL, e2, List.take_left]
    rwa [e] at this
theorem LentAt.cap {w : World} {B : Nat} {p : Option Addr} {c : Nat} {s : ByteArray} (h : LentAt w B p c s) : s.size ≤ c ∧ c ≤ s.size + 8 := by
  rcases h with ⟨_, hc, h0⟩ | ⟨_, _, hc, _⟩ <;> omega
theorem lent_any (s : ByteArray) (raw : Int) (w : World) (hs : s.size ≤ 1099511627776) :
    Calls Tryz.prog 24 #[.string s, .int .i64 raw] w fun e w' => ∃ p c, e = .returned (.slice p s.size c) ∧ LentAt w' w.heap.size p c s ∧ Below w.heap.size w w' := by
  by_cases h : s.size = 0 ∧ raw.tmod 2 ≠ 0
  · refine (lent_nil s raw w h.1 h.2).mono ?_
    rintro e w' ⟨rfl, rfl⟩
    exact ⟨none, 0, by rw [h.1], .inl ⟨rfl, rfl, h.1⟩, Below.refl _ _⟩
  · refine (lent_some s raw w hs h).mono ?_
    rintro e w' ⟨rfl, hr, hb, _⟩
    exact ⟨_, _, rfl, .inr ⟨_, rfl, rfl, Nat.le_refl _, hr⟩, hb⟩
theorem whole_any {B : Nat} {p : Option Addr} {c : Nat} {s : ByteArray} {w : World} (h : LentAt w B p c s) (hs : s.size ≤ 1099511627776) :
    Calls Tryz.prog 26 #[.slice p s.size c, .string s] w fun e w' => e = .returned (.bool true) ∧ Keeps (fun i => some i = p.map (·.block)) w w' ∧ (∀ i, some i = p.map (·.block) → B ≤ i ∧ ∃ x, w.heap[i]? = some (.cells x 5 (0, 0))) := by
  rcases h with ⟨rfl, rfl, h0⟩ | ⟨g, rfl, rfl, hg, hr⟩
  · rw [h0]
    refine (whole_nil s w).mono ?_
    rintro e w' ⟨rfl, rfl⟩
    exact ⟨rfl, Keeps.refl _ _, fun i hi => by simp at hi⟩
  · refine (whole_some g s w hs hr).mono ?_
    rintro e w' ⟨rfl, hk, _⟩
    exact ⟨rfl, hk.mono (fun i hi => by simp [hi]), fun i hi => by simp at hi; subst hi; exact ⟨hg, _, hr⟩⟩
end Go.Proofs.YtkalonhalhdlaaaGreatDoor

/-
  The book with all four kinds of lists, in memory; what one more list of bytes does to it.
-/
namespace Go.Proofs.YtkalonhalhdlaaaGreatDoor
open Go.RowKit
/-- The book: its four rows, what is in them, and where the two bytes lie that mark a list of lists. -/
structure Bk where
  bs : Value
  fs : Value
  ls : Value
  is : Value
  eb : List Value
  ef : List Value
  el : List Value
  ei : List Value
  mg : Nat → Nat
/-- A block of the book. -/
def Bk.blk (b : Bk) (k : Nat) : Prop :=
  b.bs.ownBlock = some k ∨ b.fs.ownBlock = some k ∨ b.ls.ownBlock = some k ∨ b.is.ownBlock = some k ∨
    (∃ v, v ∈ b.eb ∧ v.ownBlock = some k) ∨ (∃ v, v ∈ b.ef ∧ v.ownBlock = some k) ∨ (∃ v, v ∈ b.el ∧ v.ownBlock = some k) ∨ (∃ v, v ∈ b.ei ∧ v.ownBlock = some k) ∨ ∃ i, i < b.el.length ∧ b.mg i = k
def bkZero : Bk := ⟨.slice none 0 0, .slice none 0 0, .slice none 0 0, .slice none 0 0, [], [], [], [], fun _ => 0⟩
theorem bkZero_blk (k : Nat) : ¬ bkZero.blk k := by
  unfold Bk.blk bkZero
  simp [Value.ownBlock]
def mkF (i : Nat) : List Value := [.int .i64 (-1000 - (i : Int) / 4), .slice none 0 0]
def mkI (i : Nat) : List Value := [.int .i64 (-1000 - (i : Int) / 4)]
def mkL (g : Nat) : List Value := [.slice (some ⟨g, 0, none⟩) 2 2]
theorem mkF_four {n : Nat} (h : n % 4 = 0) (j : Nat) (hj : j < 4) : mkF (n + j) = mkF n := by
  unfold mkF
  have : ((n + j : Nat) : Int) / 4 = (n : Int) / 4 := by omega
  rw [this]
theorem mkI_four {n : Nat} (h : n % 4 = 0) (j : Nat) (hj : j < 4) : mkI (n + j) = mkI n := by
  unfold mkI
  have : ((n + j : Nat) : Int) / 4 = (n : Int) / 4 := by omega
  rw [this]
/-- The two bytes that mark the i-th list of lists. -/
def TwoAt (w : World) (g i : Nat) : Prop := w.heap[g]? = some (.cells #[.int .u8 ((i / 4 % 256 : Nat) : Int), .int .u8 ((i / 1024 % 256 : Nat) : Int)] 5 (0, 0))
structure BkAt (w : World) (wb : Nat) (hs ss : Value) (b : Bk) : Prop where
  head : WAt w wb #[hs, ss, b.bs, b.fs, b.ls, b.is]
  rb : w.ownsRow 0 28 1 b.bs b.eb.length b.eb
  rf : w.ownsRow 0 63 1 b.fs b.ef.length b.ef
  rl : w.ownsRow 0 38 1 b.ls b.el.length b.el
  ri : w.ownsRow 0 62 1 b.is b.ei.length b.ei
  mb : ∀ i v, b.eb[i]? = some v → ∃ k, MarksK w 5 [.int .u8 (markN i : Nat)] v k ∧ k ≤ 1099511627776
  mf : ∀ i v, b.ef[i]? = some v → ∃ k, MarksK w 65 (mkF i) v k ∧ k ≤ 1099511627776
  ml : ∀ i v, b.el[i]? = some v → ∃ k, MarksK w 28 (mkL (b.mg i)) v k ∧ k ≤ 1099511627776
  mi : ∀ i v, b.ei[i]? = some v → ∃ k, MarksK w 3 (mkI i) v k ∧ k ≤ 1099511627776
  two : ∀ i, i < b.el.length → TwoAt w (b.mg i) i
  fb : b.eb.length % 4 = 0
  ff : b.ef.length % 4 = 0
  fl : b.el.length % 4 = 0
  fi : b.ei.length % 4 = 0
  apart : ∀ v ∈ b.el, ∀ k, v.ownBlock = some k → b.bs.ownBlock ≠ some k
theorem mem_of_get {α : Type} {l : List α} {i : Nat} {v : α} (h : l[i]? = some v) : v ∈ l := List.mem_of_getElem? h
section
variable {w : World} {wb : Nat} {hs ss : Value} {b : Bk}
/-- Which kind of cells a block of the book has. -/
def bkTy (t : TypeId) : Prop := t = 5 ∨ t = 28 ∨ t = 38 ∨ t = 3 ∨ t = 62 ∨ t = 65 ∨ t = 63
theorem BkAt.ty (h : BkAt w wb hs ss b) {k : Nat} (hk : b.blk k) : ∃ c t, w.heap[k]? = some (.cells c t (0, 0)) ∧ bkTy t := by
  rcases hk with hk | hk | hk | hk | ⟨v, hv, hk⟩ | ⟨v, hv, hk⟩ | ⟨v, hv, hk⟩ | ⟨v, hv, hk⟩ | ⟨i, hi, rfl⟩
  · obtain ⟨c, hc⟩ := ownsRow_isRow h.rb hk
    exact ⟨c, _, hc, by unfold bkTy; simp⟩
  · obtain ⟨c, hc⟩ := ownsRow_isRow h.rf hk
    exact ⟨c, _, hc, by unfold bkTy; simp⟩
  · obtain ⟨c, hc⟩ := ownsRow_isRow h.rl hk
    exact ⟨c, _, hc, by unfold bkTy; simp⟩
  · obtain ⟨c, hc⟩ := ownsRow_isRow h.ri hk
    exact ⟨c, _, hc, by unfold bkTy; simp⟩
  · obtain ⟨i, hi⟩ := List.getElem?_of_mem hv
    obtain ⟨n, hm, _⟩ := h.mb i v hi
    obtain ⟨c, hc⟩ := ownsRow_isRow hm hk
    exact ⟨c, _, hc, by unfold bkTy; simp⟩
  · obtain ⟨i, hi⟩ := List.getElem?_of_mem hv
    obtain ⟨n, hm, _⟩ := h.mf i v hi
    obtain ⟨c, hc⟩ := ownsRow_isRow hm hk
    exact ⟨c, _, hc, by unfold bkTy; simp⟩
  · obtain ⟨i, hi⟩ := List.getElem?_of_mem hv
    obtain ⟨n, hm, _⟩ := h.ml i v hi
    obtain ⟨c, hc⟩ := ownsRow_isRow hm hk
    exact ⟨c, _, hc, by unfold bkTy; simp⟩
  · obtain ⟨i, hi⟩ := List.getElem?_of_mem hv
    obtain ⟨n, hm, _⟩ := h.mi i v hi
    obtain ⟨c, hc⟩ := ownsRow_isRow hm hk
    exact ⟨c, _, hc, by unfold bkTy; simp⟩
  · exact ⟨_, _, h.two i hi, by unfold bkTy; simp⟩
theorem BkAt.lt (h : BkAt w wb hs ss b) {k : Nat} (hk : b.blk k) : k < w.heap.size := by
  obtain ⟨c, t, hc, _⟩ := h.ty hk
  exact (Array.getElem?_eq_some_iff.1 hc).1
theorem BkAt.notHead (h : BkAt w wb hs ss b) : ¬ b.blk wb := by
  intro hk
  obtain ⟨c, t, hc, ht⟩ := h.ty hk
  have h1 := h.head
  unfold WAt at h1
  rw [hc] at h1
  simp only [Option.some.injEq, Obj.cells.injEq] at h1
  have h2 := h1.2.1
  unfold bkTy at ht
  rw [h2] at ht
  revert ht
  decide
theorem BkAt.turned {X : Nat → Prop} {w' : World} (h : BkAt w wb hs ss b) (hk : Keeps X w w') (h1 : ¬ X wb) (h2 : ∀ k, b.blk k → ¬ X k) : BkAt w' wb hs ss b := by
  refine ⟨h.head.keeps hk h1, ownsRow_keepsB h.rb hk fun k e => h2 k (.inl e), ownsRow_keepsB h.rf hk fun k e => h2 k (.inr (.inl e)), ownsRow_keepsB h.rl hk fun k e => h2 k (.inr (.inr (.inl e))), ownsRow_keepsB h.ri hk fun k e => h2 k (.inr (.inr (.inr (.inl e)))), ?_, ?_, ?_, ?_, ?_, h.fb, h.ff, h.fl, h.fi, h.apart⟩
  · intro i v hv
    obtain ⟨n, hm, hn⟩ := h.mb i v hv
    exact ⟨n, ownsRow_keepsB hm hk fun k e => h2 k (.inr (.inr (.inr (.inr (.inl ⟨v, mem_of_get hv, e⟩))))), hn⟩
  · intro i v hv
    obtain ⟨n, hm, hn⟩ := h.mf i v hv
    exact ⟨n, ownsRow_keepsB hm hk fun k e => h2 k (.inr (.inr (.inr (.inr (.inr (.inl ⟨v, mem_of_get hv, e⟩)))))), hn⟩
  · intro i v hv
    obtain ⟨n, hm, hn⟩ := h.ml i v hv
    exact ⟨n, ownsRow_keepsB hm hk fun k e => h2 k (.inr (.inr (.inr (.inr (.inr (.inr (.inl ⟨v, mem_of_get hv, e⟩))))))), hn⟩
  · intro i v hv
    obtain ⟨n, hm, hn⟩ := h.mi i v hv
    exact ⟨n, ownsRow_keepsB hm hk fun k e => h2 k (.inr (.inr (.inr (.inr (.inr (.inr (.inr (.inl ⟨v, mem_of_get hv, e⟩)))))))), hn⟩
  · intro i hi
    have ht := h.two i hi
    unfold TwoAt at ht ⊢
    rw [hk.block _ (Array.getElem?_eq_some_iff.1 ht).1 (h2 _ (.inr (.inr (.inr (.inr (.inr (.inr (.inr (.inr ⟨i, hi, rfl⟩)))))))))]
    exact ht
theorem BkAt.later {w' : World} (h : BkAt w wb hs ss b) (hb : Below w.heap.size w w') : BkAt w' wb hs ss b :=
  h.turned (X := fun _ => False) (Keeps.of hb) id (fun _ _ => id)
/-- The World's other rows may turn. -/
theorem BkAt.heads {hs' ss' : Value} {w' : World} (h : BkAt w wb hs ss b) (hk : Keeps (· = wb) w w') (hd : WAt w' wb #[hs', ss', b.bs, b.fs, b.ls, b.is]) : BkAt w' wb hs' ss' b := by
  have hne : ∀ k, b.blk k → ¬ k = wb := fun k hb e => h.notHead (e ▸ hb)
  refine ⟨hd, ownsRow_keepsB h.rb hk fun k e => hne k (.inl e), ownsRow_keepsB h.rf hk fun k e => hne k (.inr (.inl e)), ownsRow_keepsB h.rl hk fun k e => hne k (.inr (.inr (.inl e))), ownsRow_keepsB h.ri hk fun k e => hne k (.inr (.inr (.inr (.inl e)))), ?_, ?_, ?_, ?_, ?_, h.fb, h.ff, h.fl, h.fi, h.apart⟩
  · intro i v hv
    obtain ⟨n, hm, hn⟩ := h.mb i v hv
    exact ⟨n, ownsRow_keepsB hm hk fun k e => hne k (.inr (.inr (.inr (.inr (.inl ⟨v, mem_of_get hv, e⟩))))), hn⟩
  · intro i v hv
    obtain ⟨n, hm, hn⟩ := h.mf i v hv
    exact ⟨n, ownsRow_keepsB hm hk fun k e => hne k (.inr (.inr (.inr (.inr (.inr (.inl ⟨v, mem_of_get hv, e⟩)))))), hn⟩
  · intro i v hv
    obtain ⟨n, hm, hn⟩ := h.ml i v hv
    exact ⟨n, ownsRow_keepsB hm hk fun k e => hne k (.inr (.inr (.inr (.inr (.inr (.inr (.inl ⟨v, mem_of_get hv, e⟩))))))), hn⟩
  · intro i v hv
    obtain ⟨n, hm, hn⟩ := h.mi i v hv
    exact ⟨n, ownsRow_keepsB hm hk fun k e => hne k (.inr (.inr (.inr (.inr (.inr (.inr (.inr (.inl ⟨v, mem_of_get hv, e⟩)))))))), hn⟩
  · intro i hi
    have ht := h.two i hi
    unfold TwoAt at ht ⊢
    rw [hk.block _ (Array.getElem?_eq_some_iff.1 ht).1 (hne _ (.inr (.inr (.inr (.inr (.inr (.inr (.inr (.inr ⟨i, hi, rfl⟩)))))))))]
    exact ht
end
/-- The blocks that one more list turns: the World's, the row's, the list's. -/
def turnB (wb : Nat) (r v : Value) (k : Nat) : Prop := k = wb ∨ some k = r.ownBlock ∨ some k = v.ownBlock
theorem get_four {α : Type} {l : List α} {a b c d u : α} {i : Nat} (h : (l ++ [a, b, c, d])[i]? = some u) : (i < l.length ∧ l[i]? = some u) ∨ ∃ j, j < 4 ∧ i = l.length + j ∧ [a, b, c, d][j]? = some u := by
  by_cases hlt : i < l.length
  · rw [List.getElem?_append_left hlt] at h
    exact .inl ⟨hlt, h⟩
  · rw [List.getElem?_append_right (by omega)] at h
    refine .inr ⟨i - l.length, ?_, by omega, h⟩
    have := (List.getElem?_eq_some_iff.1 h).1
    simpa using this
theorem mem_four {α : Type} {l : List α} {a b c d u : α} (h : u ∈ l ++ [a, b, c, d]) : u ∈ l ∨ u = a ∨ u = b ∨ u = c ∨ u = d := by
  rcases List.mem_append.1 h with h | h
  · exact .inl h
  · simp at h
    exact .inr h
/-- One more list of bytes is kept. -/
theorem keeps_bk {w : World} {wb : Nat} {hs ss v : Value} {b : Bk} {xs : List Value} {n : Nat} (h : BkAt w wb hs ss b) (hv : w.ownsRow 0 5 1 v n xs) (hvb : ∀ k, v.ownBlock = some k → ¬ b.blk k) (hN : b.eb.length ≤ 4000000000000) (hn : n ≤ 1048576) :
    Calls Tryz.prog 34 #[.pointer (some ⟨wb, 2, none⟩), v] w fun e w' => e = .returned (.tuple #[]) ∧ ∃ b' : Bk, BkAt w' wb hs ss b' ∧ b'.eb.length = b.eb.length + 4 ∧ b'.fs = b.fs ∧ b'.ls = b.ls ∧ b'.is = b.is ∧ b'.ef = b.ef ∧ b'.el = b.el ∧ b'.ei = b.ei ∧ b'.mg = b.mg ∧ Keeps (turnB wb b.bs v) w w' ∧ (∀ k, b'.blk k → b.blk k ∨ v.ownBlock = some k ∨ w.heap.size ≤ k) := by
  refine (keeps_any wb (turnB wb b.bs v) (.inl rfl) hs ss b.bs b.fs b.ls b.is v b.eb xs n w h.head h.rb hv (fun k hk => .inl (.inr (.inl hk.symm))) (fun k hk => .inl (.inr (.inr hk.symm))) hN (by omega)).mono ?_
  rintro e w' ⟨rfl, bs', v1, v2, v3, K⟩
  -- which block the row has now
  have hbs : ∀ k, bs'.ownBlock = some k → b.bs.ownBlock = some k ∨ w.heap.size ≤ k := by
    intro k hk
    rcases K.mineB k hk with (hx | hx | hx) | hx
    · exfalso
      obtain ⟨c, hc⟩ := ownsRow_isRow K.row hk
      have h3 := K.head
      unfold WAt at h3
      rw [← hx, hc] at h3
      simp at h3
    · exact .inl hx.symm
    · exfalso
      obtain ⟨c, hc⟩ := ownsRow_isRow K.row hk
      obtain ⟨c2, hc2⟩ := ownsRow_isRow (K.marks (v, n) (by simp)) (k := k) hx.symm
      rw [hc] at hc2
      simp at hc2
    · exact .inr hx
  have hmk : ∀ u : Value × Nat, u ∈ [(v, n), (v1, n + 1), (v2, n + 2), (v3, n + 3)] → ∀ k, u.1.ownBlock = some k → b.blk k ∨ v.ownBlock = some k ∨ w.heap.size ≤ k := by
    intro u hu k hk
    rcases K.mineU u hu k hk with (hx | hx | hx) | hx
    · exfalso
      obtain ⟨c, hc⟩ := ownsRow_isRow (K.marks u hu) hk
      have h3 := K.head
      unfold WAt at h3
      rw [← hx, hc] at h3
      simp at h3
    · exact .inl (.inl hx.symm)
    · exact .inr (.inl hx.symm)
    · exact .inr (.inr hx)
  -- what is not turned
  have hno : ∀ k, b.blk k → b.bs.ownBlock ≠ some k → ¬ turnB wb b.bs v k := by
    rintro k hk hne (rfl | hx | hx)
    · exact h.notHead hk
    · exact hne hx.symm
    · exact hvb k hx.symm hk
  have hty : ∀ {k : Nat} {c : Array Value} {t : TypeId}, w.heap[k]? = some (.cells c t (0, 0)) → t ≠ 28 → b.bs.ownBlock ≠ some k := by
    intro k c t hc ht hk
    obtain ⟨c2, hc2⟩ := ownsRow_isRow h.rb hk
    rw [hc] at hc2
    simp at hc2
    exact ht hc2.2
  have hrow : ∀ {k : Nat} {t : TypeId} {sz m : Nat} {u : Value} {ys : List Value}, w.ownsRow 0 t sz u m ys → u.ownBlock = some k → t ≠ 28 → b.bs.ownBlock ≠ some k := by
    intro k t sz m u ys hr hk ht
    obtain ⟨c, hc⟩ := ownsRow_isRow hr hk
    exact hty hc ht
  refine ⟨rfl, ⟨bs', b.fs, b.ls, b.is, b.eb ++ [v, v1, v2, v3], b.ef, b.el, b.ei, b.mg⟩, ⟨K.head, K.row, ?_, ?_, ?_, ?_, ?_, ?_, ?_, ?_, ?_, h.ff, h.fl, h.fi, ?_⟩, by simp, rfl, rfl, rfl, rfl, rfl, rfl, rfl, K.keeps, ?_⟩
  · exact ownsRow_keepsB h.rf K.keeps fun k e => hno k (.inr (.inl e)) (hrow h.rf e (by decide))
  · exact ownsRow_keepsB h.rl K.keeps fun k e => hno k (.inr (.inr (.inl e))) (hrow h.rl e (by decide))
  · exact ownsRow_keepsB h.ri K.keeps fun k e => hno k (.inr (.inr (.inr (.inl e)))) (hrow h.ri e (by decide))
  · intro i u hi
    rcases get_four hi with ⟨hlt, hi⟩ | ⟨j, hj, rfl, hi⟩
    · obtain ⟨m, hm, hm2⟩ := h.mb i u hi
      exact ⟨m, ownsRow_keepsB hm K.keeps fun k e => hno k (.inr (.inr (.inr (.inr (.inl ⟨u, mem_of_get hi, e⟩))))) (hrow hm e (by decide)), hm2⟩
    · rw [mark_four h.fb j hj]
      have hc : j = 0 ∨ j = 1 ∨ j = 2 ∨ j = 3 := by omega
      rcases hc with rfl | rfl | rfl | rfl <;> (simp at hi; subst hi)
      · exact ⟨n, K.marks (v, n) (by simp), by omega⟩
      · exact ⟨n + 1, K.marks (v1, n + 1) (by simp), by omega⟩
      · exact ⟨n + 2, K.marks (v2, n + 2) (by simp), by omega⟩
      · exact ⟨n + 3, K.marks (v3, n + 3) (by simp), by omega⟩
  · intro i u hi
    obtain ⟨m, hm, hm2⟩ := h.mf i u hi
    exact ⟨m, ownsRow_keepsB hm K.keeps fun k e => hno k (.inr (.inr (.inr (.inr (.inr (.inl ⟨u, mem_of_get hi, e⟩)))))) (hrow hm e (by decide)), hm2⟩
  · intro i u hi
    obtain ⟨m, hm, hm2⟩ := h.ml i u hi
    exact ⟨m, ownsRow_keepsB hm K.keeps fun k e => hno k (.inr (.inr (.inr (.inr (.inr (.inr (.inl ⟨u, mem_of_get hi, e⟩))))))) (h.apart u (mem_of_get hi) k e), hm2⟩
  · intro i u hi
    obtain ⟨m, hm, hm2⟩ := h.mi i u hi
    exact ⟨m, ownsRow_keepsB hm K.keeps fun k e => hno k (.inr (.inr (.inr (.inr (.inr (.inr (.inr (.inl ⟨u, mem_of_get hi, e⟩)))))))) (hrow hm e (by decide)), hm2⟩
  · intro i hi
    have ht := h.two i hi
    unfold TwoAt at ht ⊢
    rw [K.keeps.block _ (Array.getElem?_eq_some_iff.1 ht).1 (hno _ (.inr (.inr (.inr (.inr (.inr (.inr (.inr (.inr ⟨i, hi, rfl⟩)))))))) (hty ht (by decide)))]
    exact ht
  · have := h.fb
    simp
    omega
  · intro u hu k hk hk2
    rcases hbs k hk2 with hx | hx
    · exact h.apart u hu k hk hx
    · have := h.lt (.inr (.inr (.inr (.inr (.inr (.inr (.inl ⟨u, hu, hk⟩)))))))
      omega
  · intro k hk
    rcases hk with hk | hk | hk | hk | ⟨u, hu, hk⟩ | hk | hk | hk | hk
    · rcases hbs k hk with hx | hx
      · exact .inl (.inl hx)
      · exact .inr (.inr hx)
    · exact .inl (.inr (.inl hk))
    · exact .inl (.inr (.inr (.inl hk)))
    · exact .inl (.inr (.inr (.inr (.inl hk))))
    · rcases mem_four hu with hu | rfl | rfl | rfl | rfl
      · exact .inl (.inr (.inr (.inr (.inr (.inl ⟨u, hu, hk⟩)))))
      · exact hmk (u, n) (by simp) k hk
      · exact hmk (u, n + 1) (by simp) k hk
      · exact hmk (u, n + 2) (by simp) k hk
      · exact hmk (u, n + 3) (by simp) k hk
    · exact .inl (.inr (.inr (.inr (.inr (.inr (.inl hk))))))
    · exact .inl (.inr (.inr (.inr (.inr (.inr (.inr (.inl hk)))))))
    · exact .inl (.inr (.inr (.inr (.inr (.inr (.inr (.inr (.inl hk))))))))
    · exact .inl (.inr (.inr (.inr (.inr (.inr (.inr (.inr (.inr hk))))))))
end Go.Proofs.YtkalonhalhdlaaaGreatDoor
