import Derived.Test.YtkalonhalhdlaaaDoorSShut
/-
  What the methods of a station do that hear a frame: heeds, and what is Down, Calling, Leaving; fallApart; answerChange.
-/
namespace Go.Proofs.YtkalonhalhdlaaaDoor
open Go.RowKit

section
variable {w W : World} {own : Nat → Nat} {i b : Nat} {c : Cfg} {s : St} {cl : Bool} {ch : Nat} {q cm o ev : Value} {qe ce oe : List Value}


/-- What was boxed stands behind a call that only makes memory. -/
theorem boxB {w w1 : World} {x : Obj} (hb : Below (w.alloc x).heap.size (w.alloc x) w1) : w1.heap[w.heap.size]? = some x := by
  rw [hb.block w.heap.size (by rw [alloc1_s]; omega)]
  exact alloc1_a w x
set_option maxHeartbeats 4000000 in
set_option maxRecDepth 100000 in
theorem heeds_any (h : SAt w own i b c s cl ch q cm o ev qe ce oe) (f : Fr) (fq : Option Addr) (fc : Nat) :
    Calls Tryd.prog 42 #[.pointer (some ⟨b, 0, none⟩), frV f fq fc] w fun e w' => e = .returned (.bool (heeds c f)) ∧ Below w.heap.size w w' := by
  have hk := fun V (hV : Below w.heap.size w V) => isCommand_any (h.later hV) f fq fc
  have hlt := h.lt
  have hdef : heeds c f = if f.k = 1 ∨ f.k = 5 ∨ f.k = 6 then isCmd c f else if f.k = 7 ∨ f.k = 8 ∨ f.k = 9 then !isCmd c f else true := rfl
  generalize isCmd c f = x at hk hdef
  have HK := hide hk
  have HD := hide hdef
  clear h hk hdef
  obtain ⟨fa, fk, fp, fns, fnr, info⟩ := f
  unfold frV at HK ⊢
  simp only at HK HD ⊢
  by_cases h1 : fk = 1 ∨ fk = 5 ∨ fk = 6
  · have HD2 := hide ((unhide HD).trans (if_pos h1))
    clear HD
    rcases h1 with rfl | rfl | rfl
    all_goals
      go_enter Tryd.func42, Tryd.ntmps42
      go_wp2_with fail
      refine (unhide HK _ ?_).mono ?_
      · exact (Below.refl _ w).alloc (Nat.le_refl _) _
      rintro e w1 ⟨rfl, hb⟩
      have HB := hide (((Below.refl _ w).alloc (Nat.le_refl _) _).trans (hb.mono (by simp)))
      clear hb HK
      go_wp2
      go_ret
      exact ⟨ret_bool (unhide HD2).symm, unhide HB⟩
  · have HD1 := hide ((unhide HD).trans (if_neg h1))
    have n1 : (fk == 1) = false := by simp; omega
    have n5 : (fk == 5) = false := by simp; omega
    have n6 : (fk == 6) = false := by simp; omega
    clear HD
    by_cases h2 : fk = 7 ∨ fk = 8 ∨ fk = 9
    · have HD2 := hide ((unhide HD1).trans (if_pos h2))
      clear HD1 h1 n1 n5 n6
      rcases h2 with rfl | rfl | rfl
      all_goals
        go_enter Tryd.func42, Tryd.ntmps42
        go_wp2_with fail
        refine (unhide HK _ ?_).mono ?_
        · exact (Below.refl _ w).alloc (Nat.le_refl _) _
        rintro e w1 ⟨rfl, hb⟩
        have HB := hide (((Below.refl _ w).alloc (Nat.le_refl _) _).trans (hb.mono (by simp)))
        clear hb HK
        go_wp2
        go_ret
        exact ⟨ret_bool (unhide HD2).symm, unhide HB⟩
    · have HD2 := hide ((unhide HD1).trans (if_neg h2))
      have n7 : (fk == 7) = false := by simp; omega
      have n8 : (fk == 8) = false := by simp; omega
      have n9 : (fk == 9) = false := by simp; omega
      clear HD1 h1 h2 HK
      go_enter Tryd.func42, Tryd.ntmps42
      go_wp2
      go_ret
      exact ⟨ret_bool (unhide HD2).symm, (Below.refl _ w).alloc (Nat.le_refl _) _⟩

set_option maxHeartbeats 4000000 in
set_option maxRecDepth 100000 in
theorem hearDown_any (h : SAt w own i b c s cl ch q cm o ev qe ce oe) (f : Fr) (fq : Option Addr) (fc : Nat) (hl : s.out.length ≤ 2199023255552) (hl2 : s.events.length ≤ 2199023255552) :
    Calls Tryd.prog 62 #[.pointer (some ⟨b, 0, none⟩), frV f fq fc] w fun e w' => Did i b c (hearDown c f s) cl own w e w' := by
  have hlt := h.lt
  have k1 := fun V (hV : Below w.heap.size w V) => accept_any (h.later hV) 1 f fq fc hl hl2
  have k2 := fun V (hV : Below w.heap.size w V) => respond_any (h.later hV) 8 f fq fc hl
  have k3 := fun V (hV : Below w.heap.size w V) => isCommand_any (h.later hV) f fq fc
  have hdef : hearDown c f s = if f.k = 5 then accept c f.p 1 s else if f.k = 6 then respond c 8 f.p s else if f.k = 1 ∨ f.k = 2 ∨ f.k = 3 ∨ f.k = 4 then (if isCmd c f && f.p then respond c 8 f.p s else s) else s := rfl
  generalize isCmd c f = x at k3 hdef
  have K1 := hide k1
  have K2 := hide k2
  have K3 := hide k3
  have HD := hide hdef
  have HI := hide h
  clear h k1 k2 k3 hdef
  obtain ⟨fa, fk, fp, fns, fnr, info⟩ := f
  unfold frV at K1 K2 K3 ⊢
  simp only at K1 K2 K3 HD ⊢
  by_cases h5 : fk = 5
  · have HD2 := hide ((unhide HD).trans (if_pos h5))
    clear HD
    subst h5
    go_enter Tryd.func62, Tryd.ntmps62
    go_wp2_with fail
    refine (unhide K1 _ ?_).mono ?_
    · exact (Below.refl _ w).alloc (Nat.le_refl _) _
    rintro e w1 ⟨rfl, own2, h3, u3⟩
    have HR := hide (And.intro h3 (Upd.of (w := w) ((Below.refl _ w).alloc (Nat.le_refl _) _) u3))
    clear h3 u3 K1
    go_wp2
    first | go_end0 | refine bodyPost_ret (results_none rfl _ _ _) rfl ?_
    rw [unhide HD2]
    exact ⟨rfl, own2, (unhide HR).1, (unhide HR).2⟩
  · have HD1 := hide ((unhide HD).trans (if_neg h5))
    clear HD
    by_cases h6 : fk = 6
    · have HD2 := hide ((unhide HD1).trans (if_pos h6))
      clear HD1
      subst h6
      go_enter Tryd.func62, Tryd.ntmps62
      go_wp2_with fail
      refine (unhide K2 _ ?_).mono ?_
      · exact (Below.refl _ w).alloc (Nat.le_refl _) _
      rintro e w1 ⟨rfl, own2, h3, u3⟩
      have HR := hide (And.intro h3 (Upd.of (w := w) ((Below.refl _ w).alloc (Nat.le_refl _) _) u3))
      clear h3 u3 K2
      go_wp2
      first | go_end0 | refine bodyPost_ret (results_none rfl _ _ _) rfl ?_
      rw [unhide HD2]
      exact ⟨rfl, own2, (unhide HR).1, (unhide HR).2⟩
    · have HD3 := hide ((unhide HD1).trans (if_neg h6))
      clear HD1
      by_cases h1 : fk = 1 ∨ fk = 2 ∨ fk = 3 ∨ fk = 4
      · have HD4 := hide ((unhide HD3).trans (if_pos h1))
        clear HD3 K1 h5 h6
        cases x with
        | false =>
          have HD2 := hide ((unhide HD4).trans (if_neg (by simp)))
          clear HD4
          rcases h1 with rfl | rfl | rfl | rfl
          all_goals
            go_enter Tryd.func62, Tryd.ntmps62
            go_wp2_with fail
            refine (unhide K3 _ ((Below.refl _ w).alloc (Nat.le_refl _) _)).mono ?_
            rintro e w1 ⟨rfl, hb⟩
            obtain ⟨y0, y1, y2, y3, y4, y5⟩ := frBox (boxB hb)
            have HB := hide (((Below.refl _ w).alloc (Nat.le_refl _) _).trans (hb.mono (by simp)))
            clear hb K3
            go_wp2
            first | go_end0 | refine bodyPost_ret (results_none rfl _ _ _) rfl ?_
            rw [unhide HD2]
            exact (unhide HI).idleB (unhide HB)
        | true =>
          cases fp with
          | false =>
            have HD2 := hide ((unhide HD4).trans (if_neg (by simp)))
            clear HD4
            rcases h1 with rfl | rfl | rfl | rfl
            all_goals
              go_enter Tryd.func62, Tryd.ntmps62
              go_wp2_with fail
              refine (unhide K3 _ ((Below.refl _ w).alloc (Nat.le_refl _) _)).mono ?_
              rintro e w1 ⟨rfl, hb⟩
              obtain ⟨y0, y1, y2, y3, y4, y5⟩ := frBox (boxB hb)
              have HB := hide (((Below.refl _ w).alloc (Nat.le_refl _) _).trans (hb.mono (by simp)))
              clear hb K3
              go_wp2
              first | go_end0 | refine bodyPost_ret (results_none rfl _ _ _) rfl ?_
              rw [unhide HD2]
              exact (unhide HI).idleB (unhide HB)
          | true =>
            have HD2 := hide ((unhide HD4).trans (if_pos (by simp)))
            clear HD4
            rcases h1 with rfl | rfl | rfl | rfl
            all_goals
              go_enter Tryd.func62, Tryd.ntmps62
              go_wp2_with fail
              refine (unhide K3 _ ((Below.refl _ w).alloc (Nat.le_refl _) _)).mono ?_
              rintro e w1 ⟨rfl, hb⟩
              obtain ⟨y0, y1, y2, y3, y4, y5⟩ := frBox (boxB hb)
              have HB := hide (((Below.refl _ w).alloc (Nat.le_refl _) _).trans (hb.mono (by simp)))
              clear hb K3
              go_wp2_with fail
              refine (unhide K2 _ (unhide HB)).mono ?_
              rintro e w2 ⟨rfl, own2, h3, u3⟩
              have HR := hide (And.intro h3 (Upd.of (w := w) (unhide HB) u3))
              clear h3 u3 K2
              go_wp2
              first | go_end0 | refine bodyPost_ret (results_none rfl _ _ _) rfl ?_
              rw [unhide HD2]
              exact ⟨rfl, own2, (unhide HR).1, (unhide HR).2⟩
      · have HD2 := hide ((unhide HD3).trans (if_neg h1))
        have n1 : (fk == 1) = false := by simp; omega
        have n2 : (fk == 2) = false := by simp; omega
        have n3 : (fk == 3) = false := by simp; omega
        have n4 : (fk == 4) = false := by simp; omega
        have n5 : (fk == 5) = false := by simp; omega
        have n6 : (fk == 6) = false := by simp; omega
        clear HD3 K1 K2 K3 h1 h5 h6
        go_enter Tryd.func62, Tryd.ntmps62
        go_wp2
        first | go_end0 | refine bodyPost_ret (results_none rfl _ _ _) rfl ?_
        rw [unhide HD2]
        exact (unhide HI).idleB ((Below.refl _ w).alloc (Nat.le_refl _) _)
end
end Go.Proofs.YtkalonhalhdlaaaDoor

/-
  What the methods of a station do that hear a frame: Calling, Leaving; fallApart; answerChange.
-/
namespace Go.Proofs.YtkalonhalhdlaaaDoor
open Go.RowKit

section
variable {w W : World} {own : Nat → Nat} {i b : Nat} {c : Cfg} {s : St} {cl : Bool} {ch : Nat} {q cm o ev : Value} {qe ce oe : List Value}

set_option maxHeartbeats 4000000 in
set_option maxRecDepth 100000 in
theorem hearCalling_any (h : SAt w own i b c s cl ch q cm o ev qe ce oe) (f : Fr) (fq : Option Addr) (fc : Nat) (hl : s.out.length ≤ 2199023255552) (hl2 : s.events.length ≤ 2199023255552) :
    Calls Tryd.prog 63 #[.pointer (some ⟨b, 0, none⟩), frV f fq fc] w fun e w' => Did i b c (hearCalling c f s) cl own w e w' := by
  have hlt := h.lt
  have k1 := fun V (hV : Below w.heap.size w V) => respond_any (h.later hV) 7 f fq fc hl
  have k2 := fun V (hV : Below w.heap.size w V) => respond_any (h.later hV) 8 f fq fc hl
  have k3 := fun V (hV : Below w.heap.size w V) => comeUp_any (h.later hV) 1 hl2
  have k4 := fun V (hV : Below w.heap.size w V) => goDown_any (h.later hV) 4 hl2
  have hdef : hearCalling c f s = if f.k = 5 then respond c 7 f.p s else if f.k = 6 then respond c 8 f.p s else if f.k = 7 ∧ f.p = true then comeUp 1 s else if f.k = 8 ∧ f.p = true then goDown 4 s else s := rfl
  have K1 := hide k1
  have K2 := hide k2
  have K3 := hide k3
  have K4 := hide k4
  have HD := hide hdef
  have HI := hide h
  clear h k1 k2 k3 k4 hdef
  obtain ⟨fa, fk, fp, fns, fnr, info⟩ := f
  unfold frV at K1 K2 ⊢
  simp only at K1 K2 HD ⊢
  by_cases h5 : fk = 5
  · have HD2 := hide ((unhide HD).trans (if_pos h5))
    clear HD
    subst h5
    go_enter Tryd.func63, Tryd.ntmps63
    go_wp2_with fail
    refine (unhide K1 _ ?_).mono ?_
    · exact (Below.refl _ w).alloc (Nat.le_refl _) _
    rintro e w1 ⟨rfl, own2, h3, u3⟩
    have HR := hide (And.intro h3 (Upd.of (w := w) ((Below.refl _ w).alloc (Nat.le_refl _) _) u3))
    clear h3 u3 K1
    go_wp2
    first | go_end0 | refine bodyPost_ret (results_none rfl _ _ _) rfl ?_
    rw [unhide HD2]
    exact ⟨rfl, own2, (unhide HR).1, (unhide HR).2⟩
  · have HD1 := hide ((unhide HD).trans (if_neg h5))
    clear HD
    by_cases h6 : fk = 6
    · have HD2 := hide ((unhide HD1).trans (if_pos h6))
      clear HD1
      subst h6
      go_enter Tryd.func63, Tryd.ntmps63
      go_wp2_with fail
      refine (unhide K2 _ ?_).mono ?_
      · exact (Below.refl _ w).alloc (Nat.le_refl _) _
      rintro e w1 ⟨rfl, own2, h3, u3⟩
      have HR := hide (And.intro h3 (Upd.of (w := w) ((Below.refl _ w).alloc (Nat.le_refl _) _) u3))
      clear h3 u3 K2
      go_wp2
      first | go_end0 | refine bodyPost_ret (results_none rfl _ _ _) rfl ?_
      rw [unhide HD2]
      exact ⟨rfl, own2, (unhide HR).1, (unhide HR).2⟩
    · have HD3 := hide ((unhide HD1).trans (if_neg h6))
      clear HD1
      by_cases h7 : fk = 7
      · subst h7
        cases fp with
        | true =>
          have HD2 := hide ((unhide HD3).trans (if_pos ⟨rfl, rfl⟩))
          clear HD3
          go_enter Tryd.func63, Tryd.ntmps63
          go_wp2_with fail
          refine (unhide K3 _ ?_).mono ?_
          · exact (Below.refl _ w).alloc (Nat.le_refl _) _
          rintro e w1 ⟨rfl, own2, h3, u3⟩
          have HR := hide (And.intro h3 (Upd.of (w := w) ((Below.refl _ w).alloc (Nat.le_refl _) _) u3))
          clear h3 u3 K3
          go_wp2
          first | go_end0 | refine bodyPost_ret (results_none rfl _ _ _) rfl ?_
          rw [unhide HD2]
          exact ⟨rfl, own2, (unhide HR).1, (unhide HR).2⟩
        | false =>
          have HD2 := hide ((unhide HD3).trans ((if_neg (by simp)).trans (if_neg (by simp))))
          clear HD3
          go_enter Tryd.func63, Tryd.ntmps63
          go_wp2
          first | go_end0 | refine bodyPost_ret (results_none rfl _ _ _) rfl ?_
          rw [unhide HD2]
          exact (unhide HI).idleB ((Below.refl _ w).alloc (Nat.le_refl _) _)
      · by_cases h8 : fk = 8
        · subst h8
          cases fp with
          | true =>
            have HD2 := hide ((unhide HD3).trans ((if_neg (by simp)).trans (if_pos ⟨rfl, rfl⟩)))
            clear HD3
            go_enter Tryd.func63, Tryd.ntmps63
            go_wp2_with fail
            refine (unhide K4 _ ?_).mono ?_
            · exact (Below.refl _ w).alloc (Nat.le_refl _) _
            rintro e w1 ⟨rfl, own2, h3, u3⟩
            have HR := hide (And.intro h3 (Upd.of (w := w) ((Below.refl _ w).alloc (Nat.le_refl _) _) u3))
            clear h3 u3 K4
            go_wp2
            first | go_end0 | refine bodyPost_ret (results_none rfl _ _ _) rfl ?_
            rw [unhide HD2]
            exact ⟨rfl, own2, (unhide HR).1, (unhide HR).2⟩
          | false =>
            have HD2 := hide ((unhide HD3).trans ((if_neg (by simp)).trans (if_neg (by simp))))
            clear HD3
            go_enter Tryd.func63, Tryd.ntmps63
            go_wp2
            first | go_end0 | refine bodyPost_ret (results_none rfl _ _ _) rfl ?_
            rw [unhide HD2]
            exact (unhide HI).idleB ((Below.refl _ w).alloc (Nat.le_refl _) _)
        · have HD2 := hide ((unhide HD3).trans ((if_neg (fun hh => h7 hh.1)).trans (if_neg (fun hh => h8 hh.1))))
          have n5 : (fk == 5) = false := by simp; omega
          have n6 : (fk == 6) = false := by simp; omega
          have n7 : (fk == 7) = false := by simp; omega
          have n8 : (fk == 8) = false := by simp; omega
          clear HD3 h5 h6 h7 h8
          go_enter Tryd.func63, Tryd.ntmps63
          go_wp2
          first | go_end0 | refine bodyPost_ret (results_none rfl _ _ _) rfl ?_
          rw [unhide HD2]
          exact (unhide HI).idleB ((Below.refl _ w).alloc (Nat.le_refl _) _)

set_option maxHeartbeats 4000000 in
set_option maxRecDepth 100000 in
theorem hearLeaving_any (h : SAt w own i b c s cl ch q cm o ev qe ce oe) (f : Fr) (fq : Option Addr) (fc : Nat) (hl : s.out.length ≤ 2199023255552) (hl2 : s.events.length ≤ 2199023255552) :
    Calls Tryd.prog 65 #[.pointer (some ⟨b, 0, none⟩), frV f fq fc] w fun e w' => Did i b c (hearLeaving c f s) cl own w e w' := by
  have hlt := h.lt
  have k1 := fun V (hV : Below w.heap.size w V) => respond_any (h.later hV) 8 f fq fc hl
  have k2 := fun V (hV : Below w.heap.size w V) => respond_any (h.later hV) 7 f fq fc hl
  have k3 := fun V (hV : Below w.heap.size w V) => goDown_any (h.later hV) 3 hl2
  have hdef : hearLeaving c f s = if f.k = 5 then respond c 8 f.p s else if f.k = 6 then respond c 7 f.p s else if f.k = 7 ∨ f.k = 8 then (if f.p then goDown 3 s else s) else s := rfl
  have K1 := hide k1
  have K2 := hide k2
  have K3 := hide k3
  have HD := hide hdef
  have HI := hide h
  clear h k1 k2 k3 hdef
  obtain ⟨fa, fk, fp, fns, fnr, info⟩ := f
  unfold frV at K1 K2 ⊢
  simp only at K1 K2 HD ⊢
  by_cases h5 : fk = 5
  · have HD2 := hide ((unhide HD).trans (if_pos h5))
    clear HD
    subst h5
    go_enter Tryd.func65, Tryd.ntmps65
    go_wp2_with fail
    refine (unhide K1 _ ?_).mono ?_
    · exact (Below.refl _ w).alloc (Nat.le_refl _) _
    rintro e w1 ⟨rfl, own2, h3, u3⟩
    have HR := hide (And.intro h3 (Upd.of (w := w) ((Below.refl _ w).alloc (Nat.le_refl _) _) u3))
    clear h3 u3 K1
    go_wp2
    first | go_end0 | refine bodyPost_ret (results_none rfl _ _ _) rfl ?_
    rw [unhide HD2]
    exact ⟨rfl, own2, (unhide HR).1, (unhide HR).2⟩
  · have HD1 := hide ((unhide HD).trans (if_neg h5))
    clear HD
    by_cases h6 : fk = 6
    · have HD2 := hide ((unhide HD1).trans (if_pos h6))
      clear HD1
      subst h6
      go_enter Tryd.func65, Tryd.ntmps65
      go_wp2_with fail
      refine (unhide K2 _ ?_).mono ?_
      · exact (Below.refl _ w).alloc (Nat.le_refl _) _
      rintro e w1 ⟨rfl, own2, h3, u3⟩
      have HR := hide (And.intro h3 (Upd.of (w := w) ((Below.refl _ w).alloc (Nat.le_refl _) _) u3))
      clear h3 u3 K2
      go_wp2
      first | go_end0 | refine bodyPost_ret (results_none rfl _ _ _) rfl ?_
      rw [unhide HD2]
      exact ⟨rfl, own2, (unhide HR).1, (unhide HR).2⟩
    · have HD3 := hide ((unhide HD1).trans (if_neg h6))
      clear HD1
      by_cases h7 : fk = 7 ∨ fk = 8
      · cases fp with
        | true =>
          have HD2 := hide ((unhide HD3).trans ((if_pos h7).trans (if_pos rfl)))
          clear HD3
          rcases h7 with rfl | rfl
          all_goals
            go_enter Tryd.func65, Tryd.ntmps65
            go_wp2_with fail
            refine (unhide K3 _ ?_).mono ?_
            · exact (Below.refl _ w).alloc (Nat.le_refl _) _
            rintro e w1 ⟨rfl, own2, h3, u3⟩
            have HR := hide (And.intro h3 (Upd.of (w := w) ((Below.refl _ w).alloc (Nat.le_refl _) _) u3))
            clear h3 u3 K3
            go_wp2
            first | go_end0 | refine bodyPost_ret (results_none rfl _ _ _) rfl ?_
            rw [unhide HD2]
            exact ⟨rfl, own2, (unhide HR).1, (unhide HR).2⟩
        | false =>
          have HD2 := hide ((unhide HD3).trans ((if_pos h7).trans (if_neg (by simp))))
          clear HD3
          rcases h7 with rfl | rfl
          all_goals
            go_enter Tryd.func65, Tryd.ntmps65
            go_wp2
            first | go_end0 | refine bodyPost_ret (results_none rfl _ _ _) rfl ?_
            rw [unhide HD2]
            exact (unhide HI).idleB ((Below.refl _ w).alloc (Nat.le_refl _) _)
      · have HD2 := hide ((unhide HD3).trans (if_neg h7))
        have n5 : (fk == 5) = false := by simp; omega
        have n6 : (fk == 6) = false := by simp; omega
        have n7 : (fk == 7) = false := by simp; omega
        have n8 : (fk == 8) = false := by simp; omega
        clear HD3 h5 h6 h7
        go_enter Tryd.func65, Tryd.ntmps65
        go_wp2
        first | go_end0 | refine bodyPost_ret (results_none rfl _ _ _) rfl ?_
        rw [unhide HD2]
        exact (unhide HI).idleB ((Below.refl _ w).alloc (Nat.le_refl _) _)
end
end Go.Proofs.YtkalonhalhdlaaaDoor

/-
  What the methods of a station do that hear a frame: fallApart; answerChange; hearReadiness.
-/
namespace Go.Proofs.YtkalonhalhdlaaaDoor
open Go.RowKit

section
variable {w W : World} {own : Nat → Nat} {i b : Nat} {c : Cfg} {s : St} {cl : Bool} {ch : Nat} {q cm o ev : Value} {qe ce oe : List Value}

set_option maxHeartbeats 4000000 in
set_option maxRecDepth 100000 in
theorem answerChange_any (h : SAt w own i b c s cl ch q cm o ev qe ce oe) (was : Bool) (hl : s.out.length ≤ 2199023255552) :
    Calls Tryd.prog 49 #[.pointer (some ⟨b, 0, none⟩), .bool was] w fun e w' => Did i b c (change c was s) cl own w e w' := by
  have hlt := h.lt
  have c7 := h.c_state
  have k1 := isHeldUp_any h
  have k2 := fun n => answer_any (h.drewN n) false hl
  have hdef : change c was s = if s.state = 2 ∧ heldUp c s ≠ was then answer c false s else s := rfl
  generalize heldUp c s = x at k1 hdef
  have K2 := hide k2
  have HD := hide hdef
  have HI := hide h
  clear h k2 hdef
  by_cases h2 : s.state = 2
  · have t2 : ((s.state : Int) == 2) = true := by simp [h2]
    by_cases hx : x = was
    · have HD2 := hide ((unhide HD).trans (if_neg (fun hh => hh.2 hx)))
      subst hx
      clear HD h2
      go_enter Tryd.func49, Tryd.ntmps49
      go_wp2_with fail
      refine k1.mono ?_
      rintro e w0 ⟨rfl, n0, rfl⟩
      clear k1
      go_wp2
      first | go_end0 | refine bodyPost_ret (results_none rfl _ _ _) rfl ?_
      rw [unhide HD2]
      exact (unhide HI).idleB (below_drewN (Below.refl _ w) _)
    · have HD2 := hide ((unhide HD).trans (if_pos ⟨h2, hx⟩))
      have tx : (x != was) = true := by simp [hx]
      have tx2 : (x == was) = false := by simp [hx]
      clear HD h2 hx
      go_enter Tryd.func49, Tryd.ntmps49
      go_wp2_with fail
      refine k1.mono ?_
      rintro e w0 ⟨rfl, n0, rfl⟩
      clear k1
      go_wp2_with fail
      refine (unhide K2 _).mono ?_
      rintro e w1 ⟨rfl, own2, h3, u3⟩
      have HR := hide (And.intro h3 (Upd.of (w := w) (below_drewN (Below.refl _ w) _) u3))
      clear h3 u3 K2
      go_wp2
      first | go_end0 | refine bodyPost_ret (results_none rfl _ _ _) rfl ?_
      rw [unhide HD2]
      exact ⟨rfl, own2, (unhide HR).1, (unhide HR).2⟩
  · have HD2 := hide ((unhide HD).trans (if_neg (fun hh => h2 hh.1)))
    have t2 : ((s.state : Int) == 2) = false := by simp; omega
    clear HD h2
    go_enter Tryd.func49, Tryd.ntmps49
    clear k1
    go_wp2
    first | go_end0 | refine bodyPost_ret (results_none rfl _ _ _) rfl ?_
    rw [unhide HD2]
    exact (unhide HI).idle

set_option maxHeartbeats 4000000 in
set_option maxRecDepth 100000 in
theorem fallApart_any (h : SAt w own i b c s cl ch q cm o ev qe ce oe) (f : Fr) (fq : Option Addr) (fc : Nat) (hl : s.out.length ≤ 2199023255552) (hl2 : s.events.length ≤ 2199023255552) :
    Calls Tryd.prog 88 #[.pointer (some ⟨b, 0, none⟩), frV f fq fc] w fun e w' => Did i b c (fallApart c f s) cl own w e w' := by
  have hlt := h.lt
  have hn0 := h.new0 w.heap.size (Nat.le_refl _)
  have K1 := hide (fun V (hV : Below w.heap.size w V) => startOver_any (h.later hV))
  clear h
  unfold frV
  go_enter Tryd.func88, Tryd.ntmps88
  go_wp2_with fail
  refine (unhide K1 _ ((Below.refl _ w).alloc (Nat.le_refl _) _)).mono ?_
  rintro e w1 ⟨rfl, h1, u1⟩
  obtain ⟨y0, y1, y2, y3, y4, y5⟩ := frBox (box_kept u1 hn0)
  have c7 := h1.c_state
  have fz := h1.fz
  have hlt1 := h1.lt
  have hK : Keeps (· = b) w1 _ := (Keeps.refl _ w1).setB 7 (.int .i64 (4 : Nat))
  have h2 := h1.wroteL hK ((h1.hd.state 4).as { over s with state := 4 } rfl) Stays.same Stays.same Stays.same (.inl ⟨rfl, rfl⟩) (over_fit h1.cok h1.sok 4 (by omega) 0 0 (Nat.zero_le _) (Nat.zero_le _))
  have hbx : (w1.setCell ⟨b, 7, none⟩ (.int .i64 (4 : Nat))).heap[w.heap.size]? = w1.heap[w.heap.size]? := Below.heap_setCell _ _ _ _ (by show w.heap.size ≠ b; omega)
  have hbx2 := hbx.trans (box_kept u1 hn0)
  have hltx : w.heap.size < w1.heap.size := by have := u1.keeps.size; rw [alloc1_s] at this; omega
  have hk := isCommand_any h2 f fq fc
  unfold frV at hk
  have K2 := hide hk
  have H2 := hide h2
  have U := hide ((Upd.of (w := w) ((Below.refl _ w).alloc (Nat.le_refl _) _) u1).trans (h1.upd hK))
  have BX := hide hbx2
  have K3 := hide (fun V hV => report_any (h2.later (w' := V) hV) (isCmd c f && f.p) hl)
  have hmod : (isCmd c f && f.p) = (isCmd c f && f.p) := rfl
  clear hk h2 u1 h1 hK hbx hbx2 K1 hmod
  generalize hx : isCmd c f = x at K2 K3
  have HX := hide hx
  clear hx
  have hne : w.heap.size ≠ b := by omega
  have HD : Hid (fallApart c f s = tell 2 (report c (x && f.p) { over s with state := 4 })) := hide (by unfold fallApart; rw [unhide HX])
  clear HX
  cases x with
  | true =>
    simp only [Bool.true_and] at K3 HD
    go_wp2_with fail
    refine (unhide K2).mono ?_
    rintro e w2 ⟨rfl, hb⟩
    have hbw : w2.heap[w.heap.size]? = _ := (hb.block w.heap.size (by rw [size_setCell]; exact hltx)).trans (unhide BX)
    obtain ⟨z0, z1, z2, z3, z4, z5⟩ := frBox hbw
    have K4 := hide (unhide K3 w2 hb)
    have U2 := hide ((unhide U).trans (Upd.of hb (Upd.refl i own w2)))
    clear hb hbw K3 K2 BX U y0 y1 y2 y3 y4 y5 c7 fz H2
    go_wp2_with fail
    refine (unhide K4).mono ?_
    rintro e w3 ⟨rfl, own3, ⟨ch3, q3, cm3, o3, ev3, qe3, ce3, oe3, h3⟩, u3⟩
    have K5 := hide (tell_any h3 2 hl2)
    have U3 := hide ((unhide U2).trans u3)
    clear K4 h3 u3 U2
    go_wp2_with fail
    refine (unhide K5).mono ?_
    rintro e w4 ⟨rfl, own4, h4, u4⟩
    have HR := hide (And.intro h4 ((unhide U3).trans u4))
    clear h4 u4 K5 U3
    go_wp2
    first | go_end0 | refine bodyPost_ret (results_none rfl _ _ _) rfl ?_
    rw [unhide HD]
    exact ⟨rfl, own4, (unhide HR).1, (unhide HR).2⟩
  | false =>
    simp only [Bool.false_and] at K3 HD
    go_wp2_with fail
    refine (unhide K2).mono ?_
    rintro e w2 ⟨rfl, hb⟩
    have K4 := hide (unhide K3 w2 hb)
    have U2 := hide ((unhide U).trans (Upd.of hb (Upd.refl i own w2)))
    clear hb K3 K2 BX U y0 y1 y2 y3 y4 y5 c7 fz H2
    go_wp2_with fail
    refine (unhide K4).mono ?_
    rintro e w3 ⟨rfl, own3, ⟨ch3, q3, cm3, o3, ev3, qe3, ce3, oe3, h3⟩, u3⟩
    have K5 := hide (tell_any h3 2 hl2)
    have U3 := hide ((unhide U2).trans u3)
    clear K4 h3 u3 U2
    go_wp2_with fail
    refine (unhide K5).mono ?_
    rintro e w4 ⟨rfl, own4, h4, u4⟩
    have HR := hide (And.intro h4 ((unhide U3).trans u4))
    clear h4 u4 K5 U3
    go_wp2
    first | go_end0 | refine bodyPost_ret (results_none rfl _ _ _) rfl ?_
    rw [unhide HD]
    exact ⟨rfl, own4, (unhide HR).1, (unhide HR).2⟩
end
end Go.Proofs.YtkalonhalhdlaaaDoor

/-
  What one call of hearReadiness does.
-/
namespace Go.Proofs.YtkalonhalhdlaaaDoor
open Go.RowKit

section
variable {w W : World} {own : Nat → Nat} {i b : Nat} {c : Cfg} {s : St} {cl : Bool} {ch : Nat} {q cm o ev : Value} {qe ce oe : List Value}

set_option maxHeartbeats 4000000 in
set_option maxRecDepth 100000 in
theorem hearReady2_any (h : SAt w own i b c s cl ch q cm o ev qe ce oe) (fa fns : Int) (fp : Bool) (nr : Nat) (info : Msg) (fq : Option Addr) (fc : Nat) (hnr : nr < c.m) (hl : s.out.length ≤ 2199023255552) :
    Calls Tryd.prog 91 #[.pointer (some ⟨b, 0, none⟩), frV ⟨fa, 2, fp, fns, (nr : Nat), info⟩ fq fc] w fun e w' => Did i b c (hearReady c ⟨fa, 2, fp, fns, (nr : Nat), info⟩ s) cl own w e w' := by
  have hlt := h.lt
  have c16 := h.c_peer
  have c8 := h.c_vs
  have fz := h.fz
  have hsk := h.sok
  have hS : Keeps (· = b) w (w.setCell ⟨b, 16, none⟩ (.bool false)) := (Keeps.refl _ _).setB 16 (.bool false)
  have h0 := h.wrote (s' := { s with peer := false }) hS (h.hd.peer false) rfl rfl rfl rfl ⟨hsk.state, hsk.vs, hsk.va, hsk.vr, hsk.vm, hsk.q20, hsk.q32, hsk.timer, hsk.tries, hsk.came⟩
  have h1 := h0.later (w' := ((w.setCell ⟨b, 16, none⟩ (.bool false)).alloc (.cells #[.int .i64 fa, .int .i64 (2 : Int), .bool fp, .int .i64 fns, .int .i64 (nr : Nat), .slice fq info.length fc] 24))) ((Below.refl _ _).alloc (Nat.le_refl _) _)
  have u1 : Upd i own own w ((w.setCell ⟨b, 16, none⟩ (.bool false)).alloc (.cells #[.int .i64 fa, .int .i64 (2 : Int), .bool fp, .int .i64 fns, .int .i64 (nr : Nat), .slice fq info.length fc] 24)) := (h.upd hS).trans (Upd.of ((Below.refl _ _).alloc (Nat.le_refl _) _) (Upd.refl _ _ _))
  have hsz0 : (w.setCell ⟨b, 16, none⟩ (.bool false)).heap.size = w.heap.size := by rw [size_setCell]
  have hbx : ((w.setCell ⟨b, 16, none⟩ (.bool false)).alloc (.cells #[.int .i64 fa, .int .i64 (2 : Int), .bool fp, .int .i64 fns, .int .i64 (nr : Nat), .slice fq info.length fc] 24)).heap[w.heap.size]? = some (.cells #[.int .i64 fa, .int .i64 (2 : Int), .bool fp, .int .i64 fns, .int .i64 (nr : Nat), .slice fq info.length fc] 24) := by rw [← hsz0]; exact alloc1_a _ _
  have hltx : w.heap.size < ((w.setCell ⟨b, 16, none⟩ (.bool false)).alloc (.cells #[.int .i64 fa, .int .i64 (2 : Int), .bool fp, .int .i64 fns, .int .i64 (nr : Nat), .slice fq info.length fc] 24)).heap.size := by rw [alloc1_s, hsz0]; omega
  have hdef : hearReady c (⟨fa, 2, fp, fns, (nr : Nat), info⟩ : Fr) s = if fp = false then { s with peer := false } else if isCmd c (⟨fa, 2, fp, fns, (nr : Nat), info⟩ : Fr) then answer c true { s with peer := false } else if s.polling then { { s with peer := false } with polling := false, vs := nr, timer := 0 } else { s with peer := false } := by
    unfold hearReady
    simp
  have hk := isCommand_any h1 (⟨fa, 2, fp, fns, (nr : Nat), info⟩ : Fr) fq fc
  unfold frV at hk ⊢
  simp only at hk hbx ⊢
  generalize hx : isCmd c (⟨fa, 2, fp, fns, (nr : Nat), info⟩ : Fr) = x at hk hdef
  have K2 := hide hk
  have H1 := hide h1
  have U1 := hide u1
  have BX := hide hbx
  have HD := hide hdef
  clear h h0 h1 u1 hk hdef hbx hS hx hsk hsz0
  have hne : w.heap.size ≠ b := by omega
  cases fp with
  | false =>
    have HD2 := hide ((unhide HD).trans (if_pos rfl))
    clear HD K2
    go_enter Tryd.func91, Tryd.ntmps91
    go_wp2
    first | go_end0 | refine bodyPost_ret (results_none rfl _ _ _) rfl ?_
    rw [unhide HD2]
    exact ⟨rfl, own, ⟨_, _, _, _, _, _, _, _, unhide H1⟩, unhide U1⟩
  | true =>
    have HD1 := hide ((unhide HD).trans (if_neg (by simp)))
    clear HD
    cases x with
    | true =>
      have HD2 := hide ((unhide HD1).trans (if_pos rfl))
      clear HD1
      go_enter Tryd.func91, Tryd.ntmps91
      go_wp2_with fail
      refine (unhide K2).mono ?_
      rintro e w2 ⟨rfl, hb⟩
      have K4 := hide (answer_any ((unhide H1).later hb) true hl)
      have U2 := hide ((unhide U1).trans (Upd.of hb (Upd.refl i own w2)))
      clear hb K2 BX U1 H1
      go_wp2_with fail
      refine (unhide K4).mono ?_
      rintro e w3 ⟨rfl, own3, h3, u3⟩
      have HR := hide (And.intro h3 ((unhide U2).trans u3))
      clear h3 u3 K4 U2
      go_wp2
      first | go_end0 | refine bodyPost_ret (results_none rfl _ _ _) rfl ?_
      rw [unhide HD2]
      exact ⟨rfl, own3, (unhide HR).1, (unhide HR).2⟩
    | false =>
      have HD3 := hide ((unhide HD1).trans (if_neg (by simp)))
      clear HD1
      by_cases hp : s.polling = true
      · have HD2 := hide ((unhide HD3).trans (if_pos hp))
        clear HD3
        go_enter Tryd.func91, Tryd.ntmps91
        go_wp2_with fail
        refine (unhide K2).mono ?_
        rintro e w2 ⟨rfl, hb⟩
        have h2 := (unhide H1).later hb
        have d15 : w2.cell? ⟨b, 15, none⟩ = some (.bool true) := by have := h2.c_polling; rw [this]; exact congrArg (fun x => some (Value.bool x)) hp
        have K4 := hide (endPolling_any h2 nr hnr)
        have U2 := hide ((unhide U1).trans (Upd.of hb (Upd.refl i own w2)))
        obtain ⟨z0, z1, z2, z3, z4, z5⟩ := frBox ((hb.block w.heap.size hltx).trans (unhide BX))
        clear hb K2 BX U1 H1 h2 hp
        go_wp2_with fail
        refine (unhide K4).mono ?_
        rintro e w3 ⟨rfl, own3, h3, u3⟩
        have HR := hide (And.intro h3 ((unhide U2).trans u3))
        clear h3 u3 K4 U2
        go_wp2
        first | go_end0 | refine bodyPost_ret (results_none rfl _ _ _) rfl ?_
        rw [unhide HD2]
        exact ⟨rfl, own3, (unhide HR).1, (unhide HR).2⟩
      · have HD2 := hide ((unhide HD3).trans (if_neg hp))
        have hp' : s.polling = false := eq_false_of_ne_true hp
        clear HD3
        go_enter Tryd.func91, Tryd.ntmps91
        go_wp2_with fail
        refine (unhide K2).mono ?_
        rintro e w2 ⟨rfl, hb⟩
        have h2 := (unhide H1).later hb
        have d15 : w2.cell? ⟨b, 15, none⟩ = some (.bool false) := by have := h2.c_polling; rw [this]; exact congrArg (fun x => some (Value.bool x)) hp'
        have HR := hide (And.intro h2 ((unhide U1).trans (Upd.of hb (Upd.refl i own w2))))
        clear hb K2 BX U1 H1 h2 hp hp'
        go_wp2
        first | go_end0 | refine bodyPost_ret (results_none rfl _ _ _) rfl ?_
        rw [unhide HD2]
        exact ⟨rfl, own, ⟨_, _, _, _, _, _, _, _, (unhide HR).1⟩, (unhide HR).2⟩

set_option maxHeartbeats 4000000 in
set_option maxRecDepth 100000 in
theorem hearReady3_any (h : SAt w own i b c s cl ch q cm o ev qe ce oe) (fa fns : Int) (fp : Bool) (nr : Nat) (info : Msg) (fq : Option Addr) (fc : Nat) (hnr : nr < c.m) (hl : s.out.length ≤ 2199023255552) :
    Calls Tryd.prog 91 #[.pointer (some ⟨b, 0, none⟩), frV ⟨fa, 3, fp, fns, (nr : Nat), info⟩ fq fc] w fun e w' => Did i b c (hearReady c ⟨fa, 3, fp, fns, (nr : Nat), info⟩ s) cl own w e w' := by
  have hlt := h.lt
  have c16 := h.c_peer
  have c8 := h.c_vs
  have fz := h.fz
  have hsk := h.sok
  have hS : Keeps (· = b) w (w.setCell ⟨b, 16, none⟩ (.bool true)) := (Keeps.refl _ _).setB 16 (.bool true)
  have h0 := h.wrote (s' := { s with peer := true }) hS (h.hd.peer true) rfl rfl rfl rfl ⟨hsk.state, hsk.vs, hsk.va, hsk.vr, hsk.vm, hsk.q20, hsk.q32, hsk.timer, hsk.tries, hsk.came⟩
  have h1 := h0.later (w' := ((w.setCell ⟨b, 16, none⟩ (.bool true)).alloc (.cells #[.int .i64 fa, .int .i64 (3 : Int), .bool fp, .int .i64 fns, .int .i64 (nr : Nat), .slice fq info.length fc] 24))) ((Below.refl _ _).alloc (Nat.le_refl _) _)
  have u1 : Upd i own own w ((w.setCell ⟨b, 16, none⟩ (.bool true)).alloc (.cells #[.int .i64 fa, .int .i64 (3 : Int), .bool fp, .int .i64 fns, .int .i64 (nr : Nat), .slice fq info.length fc] 24)) := (h.upd hS).trans (Upd.of ((Below.refl _ _).alloc (Nat.le_refl _) _) (Upd.refl _ _ _))
  have hsz0 : (w.setCell ⟨b, 16, none⟩ (.bool true)).heap.size = w.heap.size := by rw [size_setCell]
  have hbx : ((w.setCell ⟨b, 16, none⟩ (.bool true)).alloc (.cells #[.int .i64 fa, .int .i64 (3 : Int), .bool fp, .int .i64 fns, .int .i64 (nr : Nat), .slice fq info.length fc] 24)).heap[w.heap.size]? = some (.cells #[.int .i64 fa, .int .i64 (3 : Int), .bool fp, .int .i64 fns, .int .i64 (nr : Nat), .slice fq info.length fc] 24) := by rw [← hsz0]; exact alloc1_a _ _
  have hltx : w.heap.size < ((w.setCell ⟨b, 16, none⟩ (.bool true)).alloc (.cells #[.int .i64 fa, .int .i64 (3 : Int), .bool fp, .int .i64 fns, .int .i64 (nr : Nat), .slice fq info.length fc] 24)).heap.size := by rw [alloc1_s, hsz0]; omega
  have hdef : hearReady c (⟨fa, 3, fp, fns, (nr : Nat), info⟩ : Fr) s = if fp = false then { s with peer := true } else if isCmd c (⟨fa, 3, fp, fns, (nr : Nat), info⟩ : Fr) then answer c true { s with peer := true } else if s.polling then { { s with peer := true } with polling := false, vs := nr, timer := 0 } else { s with peer := true } := by
    unfold hearReady
    simp
  have hk := isCommand_any h1 (⟨fa, 3, fp, fns, (nr : Nat), info⟩ : Fr) fq fc
  unfold frV at hk ⊢
  simp only at hk hbx ⊢
  generalize hx : isCmd c (⟨fa, 3, fp, fns, (nr : Nat), info⟩ : Fr) = x at hk hdef
  have K2 := hide hk
  have H1 := hide h1
  have U1 := hide u1
  have BX := hide hbx
  have HD := hide hdef
  clear h h0 h1 u1 hk hdef hbx hS hx hsk hsz0
  have hne : w.heap.size ≠ b := by omega
  cases fp with
  | false =>
    have HD2 := hide ((unhide HD).trans (if_pos rfl))
    clear HD K2
    go_enter Tryd.func91, Tryd.ntmps91
    go_wp2
    first | go_end0 | refine bodyPost_ret (results_none rfl _ _ _) rfl ?_
    rw [unhide HD2]
    exact ⟨rfl, own, ⟨_, _, _, _, _, _, _, _, unhide H1⟩, unhide U1⟩
  | true =>
    have HD1 := hide ((unhide HD).trans (if_neg (by simp)))
    clear HD
    cases x with
    | true =>
      have HD2 := hide ((unhide HD1).trans (if_pos rfl))
      clear HD1
      go_enter Tryd.func91, Tryd.ntmps91
      go_wp2_with fail
      refine (unhide K2).mono ?_
      rintro e w2 ⟨rfl, hb⟩
      have K4 := hide (answer_any ((unhide H1).later hb) true hl)
      have U2 := hide ((unhide U1).trans (Upd.of hb (Upd.refl i own w2)))
      clear hb K2 BX U1 H1
      go_wp2_with fail
      refine (unhide K4).mono ?_
      rintro e w3 ⟨rfl, own3, h3, u3⟩
      have HR := hide (And.intro h3 ((unhide U2).trans u3))
      clear h3 u3 K4 U2
      go_wp2
      first | go_end0 | refine bodyPost_ret (results_none rfl _ _ _) rfl ?_
      rw [unhide HD2]
      exact ⟨rfl, own3, (unhide HR).1, (unhide HR).2⟩
    | false =>
      have HD3 := hide ((unhide HD1).trans (if_neg (by simp)))
      clear HD1
      by_cases hp : s.polling = true
      · have HD2 := hide ((unhide HD3).trans (if_pos hp))
        clear HD3
        go_enter Tryd.func91, Tryd.ntmps91
        go_wp2_with fail
        refine (unhide K2).mono ?_
        rintro e w2 ⟨rfl, hb⟩
        have h2 := (unhide H1).later hb
        have d15 : w2.cell? ⟨b, 15, none⟩ = some (.bool true) := by have := h2.c_polling; rw [this]; exact congrArg (fun x => some (Value.bool x)) hp
        have K4 := hide (endPolling_any h2 nr hnr)
        have U2 := hide ((unhide U1).trans (Upd.of hb (Upd.refl i own w2)))
        obtain ⟨z0, z1, z2, z3, z4, z5⟩ := frBox ((hb.block w.heap.size hltx).trans (unhide BX))
        clear hb K2 BX U1 H1 h2 hp
        go_wp2_with fail
        refine (unhide K4).mono ?_
        rintro e w3 ⟨rfl, own3, h3, u3⟩
        have HR := hide (And.intro h3 ((unhide U2).trans u3))
        clear h3 u3 K4 U2
        go_wp2
        first | go_end0 | refine bodyPost_ret (results_none rfl _ _ _) rfl ?_
        rw [unhide HD2]
        exact ⟨rfl, own3, (unhide HR).1, (unhide HR).2⟩
      · have HD2 := hide ((unhide HD3).trans (if_neg hp))
        have hp' : s.polling = false := eq_false_of_ne_true hp
        clear HD3
        go_enter Tryd.func91, Tryd.ntmps91
        go_wp2_with fail
        refine (unhide K2).mono ?_
        rintro e w2 ⟨rfl, hb⟩
        have h2 := (unhide H1).later hb
        have d15 : w2.cell? ⟨b, 15, none⟩ = some (.bool false) := by have := h2.c_polling; rw [this]; exact congrArg (fun x => some (Value.bool x)) hp'
        have HR := hide (And.intro h2 ((unhide U1).trans (Upd.of hb (Upd.refl i own w2))))
        clear hb K2 BX U1 H1 h2 hp hp'
        go_wp2
        first | go_end0 | refine bodyPost_ret (results_none rfl _ _ _) rfl ?_
        rw [unhide HD2]
        exact ⟨rfl, own, ⟨_, _, _, _, _, _, _, _, (unhide HR).1⟩, (unhide HR).2⟩

set_option maxHeartbeats 4000000 in
set_option maxRecDepth 100000 in
theorem hearReady4_any (h : SAt w own i b c s cl ch q cm o ev qe ce oe) (fa fns : Int) (fp : Bool) (nr : Nat) (info : Msg) (fq : Option Addr) (fc : Nat) (hnr : nr < c.m) (hl : s.out.length ≤ 2199023255552) :
    Calls Tryd.prog 91 #[.pointer (some ⟨b, 0, none⟩), frV ⟨fa, 4, fp, fns, (nr : Nat), info⟩ fq fc] w fun e w' => Did i b c (hearReady c ⟨fa, 4, fp, fns, (nr : Nat), info⟩ s) cl own w e w' := by
  have hlt := h.lt
  have c16 := h.c_peer
  have c8 := h.c_vs
  have fz := h.fz
  have hsk := h.sok
  have hS : Keeps (· = b) w ((w.setCell ⟨b, 16, none⟩ (.bool false)).setCell ⟨b, 8, none⟩ (.int .i64 (nr : Nat))) := ((Keeps.refl _ _).setB 16 (.bool false)).setB 8 (.int .i64 (nr : Nat))
  have h0 := h.wrote (s' := { s with peer := false, vs := nr }) hS ((h.hd.peer false).vs nr) rfl rfl rfl rfl ⟨hsk.state, hnr, hsk.va, hsk.vr, hsk.vm, hsk.q20, hsk.q32, hsk.timer, hsk.tries, hsk.came⟩
  have h1 := h0.later (w' := (((w.setCell ⟨b, 16, none⟩ (.bool false)).setCell ⟨b, 8, none⟩ (.int .i64 (nr : Nat))).alloc (.cells #[.int .i64 fa, .int .i64 (4 : Int), .bool fp, .int .i64 fns, .int .i64 (nr : Nat), .slice fq info.length fc] 24))) ((Below.refl _ _).alloc (Nat.le_refl _) _)
  have u1 : Upd i own own w (((w.setCell ⟨b, 16, none⟩ (.bool false)).setCell ⟨b, 8, none⟩ (.int .i64 (nr : Nat))).alloc (.cells #[.int .i64 fa, .int .i64 (4 : Int), .bool fp, .int .i64 fns, .int .i64 (nr : Nat), .slice fq info.length fc] 24)) := (h.upd hS).trans (Upd.of ((Below.refl _ _).alloc (Nat.le_refl _) _) (Upd.refl _ _ _))
  have hsz0 : ((w.setCell ⟨b, 16, none⟩ (.bool false)).setCell ⟨b, 8, none⟩ (.int .i64 (nr : Nat))).heap.size = w.heap.size := by rw [size_setCell, size_setCell]
  have hbx : (((w.setCell ⟨b, 16, none⟩ (.bool false)).setCell ⟨b, 8, none⟩ (.int .i64 (nr : Nat))).alloc (.cells #[.int .i64 fa, .int .i64 (4 : Int), .bool fp, .int .i64 fns, .int .i64 (nr : Nat), .slice fq info.length fc] 24)).heap[w.heap.size]? = some (.cells #[.int .i64 fa, .int .i64 (4 : Int), .bool fp, .int .i64 fns, .int .i64 (nr : Nat), .slice fq info.length fc] 24) := by rw [← hsz0]; exact alloc1_a _ _
  have hltx : w.heap.size < (((w.setCell ⟨b, 16, none⟩ (.bool false)).setCell ⟨b, 8, none⟩ (.int .i64 (nr : Nat))).alloc (.cells #[.int .i64 fa, .int .i64 (4 : Int), .bool fp, .int .i64 fns, .int .i64 (nr : Nat), .slice fq info.length fc] 24)).heap.size := by rw [alloc1_s, hsz0]; omega
  have hdef : hearReady c (⟨fa, 4, fp, fns, (nr : Nat), info⟩ : Fr) s = if fp = false then { s with peer := false, vs := nr } else if isCmd c (⟨fa, 4, fp, fns, (nr : Nat), info⟩ : Fr) then answer c true { s with peer := false, vs := nr } else if s.polling then { { s with peer := false, vs := nr } with polling := false, vs := nr, timer := 0 } else { s with peer := false, vs := nr } := by
    unfold hearReady
    simp
  have hk := isCommand_any h1 (⟨fa, 4, fp, fns, (nr : Nat), info⟩ : Fr) fq fc
  unfold frV at hk ⊢
  simp only at hk hbx ⊢
  generalize hx : isCmd c (⟨fa, 4, fp, fns, (nr : Nat), info⟩ : Fr) = x at hk hdef
  have K2 := hide hk
  have H1 := hide h1
  have U1 := hide u1
  have BX := hide hbx
  have HD := hide hdef
  clear h h0 h1 u1 hk hdef hbx hS hx hsk hsz0
  have hne : w.heap.size ≠ b := by omega
  cases fp with
  | false =>
    have HD2 := hide ((unhide HD).trans (if_pos rfl))
    clear HD K2
    go_enter Tryd.func91, Tryd.ntmps91
    go_wp2
    first | go_end0 | refine bodyPost_ret (results_none rfl _ _ _) rfl ?_
    rw [unhide HD2]
    exact ⟨rfl, own, ⟨_, _, _, _, _, _, _, _, unhide H1⟩, unhide U1⟩
  | true =>
    have HD1 := hide ((unhide HD).trans (if_neg (by simp)))
    clear HD
    cases x with
    | true =>
      have HD2 := hide ((unhide HD1).trans (if_pos rfl))
      clear HD1
      go_enter Tryd.func91, Tryd.ntmps91
      go_wp2_with fail
      refine (unhide K2).mono ?_
      rintro e w2 ⟨rfl, hb⟩
      have K4 := hide (answer_any ((unhide H1).later hb) true hl)
      have U2 := hide ((unhide U1).trans (Upd.of hb (Upd.refl i own w2)))
      clear hb K2 BX U1 H1
      go_wp2_with fail
      refine (unhide K4).mono ?_
      rintro e w3 ⟨rfl, own3, h3, u3⟩
      have HR := hide (And.intro h3 ((unhide U2).trans u3))
      clear h3 u3 K4 U2
      go_wp2
      first | go_end0 | refine bodyPost_ret (results_none rfl _ _ _) rfl ?_
      rw [unhide HD2]
      exact ⟨rfl, own3, (unhide HR).1, (unhide HR).2⟩
    | false =>
      have HD3 := hide ((unhide HD1).trans (if_neg (by simp)))
      clear HD1
      by_cases hp : s.polling = true
      · have HD2 := hide ((unhide HD3).trans (if_pos hp))
        clear HD3
        go_enter Tryd.func91, Tryd.ntmps91
        go_wp2_with fail
        refine (unhide K2).mono ?_
        rintro e w2 ⟨rfl, hb⟩
        have h2 := (unhide H1).later hb
        have d15 : w2.cell? ⟨b, 15, none⟩ = some (.bool true) := by have := h2.c_polling; rw [this]; exact congrArg (fun x => some (Value.bool x)) hp
        have K4 := hide (endPolling_any h2 nr hnr)
        have U2 := hide ((unhide U1).trans (Upd.of hb (Upd.refl i own w2)))
        obtain ⟨z0, z1, z2, z3, z4, z5⟩ := frBox ((hb.block w.heap.size hltx).trans (unhide BX))
        clear hb K2 BX U1 H1 h2 hp
        go_wp2_with fail
        refine (unhide K4).mono ?_
        rintro e w3 ⟨rfl, own3, h3, u3⟩
        have HR := hide (And.intro h3 ((unhide U2).trans u3))
        clear h3 u3 K4 U2
        go_wp2
        first | go_end0 | refine bodyPost_ret (results_none rfl _ _ _) rfl ?_
        rw [unhide HD2]
        exact ⟨rfl, own3, (unhide HR).1, (unhide HR).2⟩
      · have HD2 := hide ((unhide HD3).trans (if_neg hp))
        have hp' : s.polling = false := eq_false_of_ne_true hp
        clear HD3
        go_enter Tryd.func91, Tryd.ntmps91
        go_wp2_with fail
        refine (unhide K2).mono ?_
        rintro e w2 ⟨rfl, hb⟩
        have h2 := (unhide H1).later hb
        have d15 : w2.cell? ⟨b, 15, none⟩ = some (.bool false) := by have := h2.c_polling; rw [this]; exact congrArg (fun x => some (Value.bool x)) hp'
        have HR := hide (And.intro h2 ((unhide U1).trans (Upd.of hb (Upd.refl i own w2))))
        clear hb K2 BX U1 H1 h2 hp hp'
        go_wp2
        first | go_end0 | refine bodyPost_ret (results_none rfl _ _ _) rfl ?_
        rw [unhide HD2]
        exact ⟨rfl, own, ⟨_, _, _, _, _, _, _, _, (unhide HR).1⟩, (unhide HR).2⟩
end
end Go.Proofs.YtkalonhalhdlaaaDoor

/-
  A message that came: its bytes become the station's.
-/
namespace Go.Proofs.YtkalonhalhdlaaaDoor
open Go.RowKit

/-- append, as one step of a region that draws; where its row lies. -/
theorem step_append_own_at {P : Program} (w : World) {ops : Array Oper} {o : Oper} {a : Act} {K : Act → World → Prop} {Q : Exit → Act → World → Prop} {E : Prop} (hgd : o.guard = none) (s x : Operand) (t : TypeId)
    (ho : o.op = .call { callee := .builtin .append, args := #[s, x], argTypes := #[t, t] })
    (base : Nat) (e : TypeId) (i : TypeInfo) (z : Value) (size bytes : Nat) (ht : P.underlying t = some (.slice e)) (hi : P.info? e = some i) (hz : i.zero = some z)
    (hsize : i.size = size) (hby : i.bytes = bytes) (hzs : z.cells.size = size) (hsz : 0 < size)
    (v : Value) (n : Nat) (xs : List Value) (hs : a.eval s = v) (hown : w.ownsRow base e size v n xs)
    (ad : Addr) (m c : Nat) (news : List Value) (hx : a.eval x = .slice (some ad) m c) (hl : news.length = m * size) (hnews : ∀ j u, news[j]? = some u → w.cell? (ad.add j) = some u) (h1 : ∀ u ∈ news, u.oneCell' = true)
    (h63 : n + m ≤ maxLen) (hbytes : (n + m) * bytes ≤ 140737488355328) (hbase : base ≤ w.heap.size)
    (h : ∀ v' w', w'.ownsRow base e size v' (n + m) (xs ++ news) → w.grownBy w' v.ownBlock → (v'.ownBlock = v.ownBlock ∨ v'.ownBlock = some w.heap.size) → K (a.put o.dst v') w') :
    if Region.wanted o (yielded ops a.tmps) = true then Oper.wp P o a w K Q else E := by
  have hw : Region.wanted o (yielded ops a.tmps) = true := by simp [Region.wanted, hgd]
  rw [if_pos hw]
  obtain ⟨v', w', hr, h2, h3, _, h5⟩ := run_append_own_at (P := P) w base t o.type e i z size bytes ht hi hz hsize hby hzs hsz v n xs hown ad m c news hl hnews h1 h63 hbytes hbase
  unfold Oper.wp execOp
  simp only [ho, resolve, invoke, builtin, Sem.run_bind, Sem.run_pure, Result.andThen_ok, List.map_toArray, List.map_cons, List.map_nil, hs, hx, hr]
  exact h v' w' h2 h3 h5

/-- As 'Upd', and block T, which was nobody's, may have become the station's. -/
structure UpdT (T : Option Nat) (i : Nat) (own own' : Nat → Nat) (w w' : World) : Prop where
  keeps : Keeps (fun k => (∃ p, p < 5 ∧ own k = tg i p) ∨ some k = T) w w'
  same : ∀ k, k < w.heap.size → some k ≠ T → own' k = own k
def DidT (T : Option Nat) (i b : Nat) (c : Cfg) (s' : St) (cl : Bool) (own : Nat → Nat) (w : World) (e : Ending) (w' : World) : Prop :=
  e = .returned (.tuple #[]) ∧ ∃ own', Stn w' own' i b c s' cl ∧ UpdT T i own own' w w'
theorem Upd.t {T : Option Nat} {i : Nat} {own own' : Nat → Nat} {w w' : World} (h : Upd i own own' w w') : UpdT T i own own' w w' := ⟨h.keeps.mono (fun _ hk => .inl hk), fun k hk _ => h.same k hk⟩
theorem Did.t {T : Option Nat} {i b : Nat} {c : Cfg} {s' : St} {cl : Bool} {own : Nat → Nat} {w : World} {e : Ending} {w' : World} (h : Did i b c s' cl own w e w') : DidT T i b c s' cl own w e w' := ⟨h.1, h.2.choose, h.2.choose_spec.1, h.2.choose_spec.2.t⟩
theorem UpdT.trans {T : Option Nat} {i : Nat} {o1 o2 o3 : Nat → Nat} {a b c : World} (h : UpdT T i o1 o2 a b) (k : Upd i o2 o3 b c) : UpdT T i o1 o3 a c := by
  refine ⟨⟨k.keeps.os.trans h.keeps.os, k.keeps.tape.trans h.keeps.tape, k.keeps.output.trans h.keeps.output, Nat.le_trans h.keeps.size k.keeps.size, fun j hj hx => ?_⟩, fun j hj hjT => (k.same j (Nat.lt_of_lt_of_le hj h.keeps.size)).trans (h.same j hj hjT)⟩
  refine (k.keeps.block j (Nat.lt_of_lt_of_le hj h.keeps.size) ?_).trans (h.keeps.block j hj hx)
  rintro ⟨p, hp, e⟩
  exact hx (.inl ⟨p, hp, (h.same j hj (fun e => hx (.inr e))).symm.trans e⟩)
theorem Upd.transT {T : Option Nat} {i : Nat} {o1 o2 o3 : Nat → Nat} {a b c : World} (h : Upd i o1 o2 a b) (k : UpdT T i o2 o3 b c) : UpdT T i o1 o3 a c := by
  refine ⟨⟨k.keeps.os.trans h.keeps.os, k.keeps.tape.trans h.keeps.tape, k.keeps.output.trans h.keeps.output, Nat.le_trans h.keeps.size k.keeps.size, fun j hj hx => ?_⟩, fun j hj hjT => (k.same j (Nat.lt_of_lt_of_le hj h.keeps.size) hjT).trans (h.same j hj)⟩
  refine (k.keeps.block j (Nat.lt_of_lt_of_le hj h.keeps.size) ?_).trans (h.keeps.block j hj (fun hh => hx (.inl hh)))
  rintro (⟨p, hp, e⟩ | e)
  · exact hx (.inl ⟨p, hp, (h.same j hj).symm.trans e⟩)
  · exact hx (.inr e)
/-- Behind what made block T: it is new. -/
theorem UpdT.new {T : Option Nat} {i : Nat} {own own' : Nat → Nat} {w W w' : World} (hb : Below w.heap.size w W) (h : UpdT T i own own' W w') (hT : ∀ k, T = some k → w.heap.size ≤ k) : Upd i own own' w w' :=
  ⟨⟨h.keeps.os.trans hb.os, h.keeps.tape.trans hb.tape, h.keeps.output.trans hb.output, Nat.le_trans hb.size h.keeps.size, fun k hk hx => (h.keeps.block k (Nat.lt_of_lt_of_le hk hb.size) (by rintro (hh | e); exact hx hh; have := hT k e.symm; omega)).trans (hb.block k hk)⟩, fun k hk => h.same k (Nat.lt_of_lt_of_le hk hb.size) (fun e => by have := hT k e.symm; omega)⟩

section
variable {w W : World} {own : Nat → Nat} {i b : Nat} {c : Cfg} {s : St} {cl : Bool} {ch : Nat} {q cm o ev : Value} {qe ce oe : List Value}

theorem SAt.headAfterW (h : SAt w own i b c s cl ch q cm o ev qe ce oe) {w1 w3 : World} {v : Value} (hb : Below w.heap.size w w1) (hg : w1.grownBy w3 v.ownBlock) (hv : ∀ k, v.ownBlock = some k → own k ≠ tg i 0) : w3.heap[b]? = some (.cells (stCells c s ch q cm o ev) 84 (0, 0)) := by
  have hlt := h.lt
  have hz := hb.size
  rw [hg.block b (by omega) (fun e => hv b e.symm h.ownb), hb.block b hlt]
  exact h.head
/-- A block of nobody's behind a row's growing. -/
theorem free_kept {own : Nat → Nat} {w w1 w3 : World} {v : Value} {t k : Nat} {x : Obj} (hb : Below w.heap.size w w1) (hg : w1.grownBy w3 v.ownBlock) (hv : ∀ k, v.ownBlock = some k → own k = t) (ht : t ≠ 0) (h0 : own k = 0) (hx : w.heap[k]? = some x) : w3.heap[k]? = some x := by
  have hlt := (Array.getElem?_eq_some_iff.1 hx).1
  have hz := hb.size
  rw [hg.block k (by omega) (fun e => ht ((hv k e.symm).symm.trans h0)), hb.block k hlt]
  exact hx

/-- A free block is station i's from now on; new ones too. -/
def ownTake (own : Nat → Nat) (n n' t : Nat) (T : Option Nat) : Nat → Nat := fun k => if some k = T then t else ownNew own n n' t k

/-- Row cm has grown by one that was nobody's, and the station's block is written. -/
theorem SAt.cameIn (h : SAt w own i b c s cl ch q cm o ev qe ce oe) {v cm' : Value} {m : Msg} {w2 w3 : World}
    (hv : w.ownsRow 0 5 1 v m.length (Lib.byteCells m)) (hfree : ∀ k, v.ownBlock = some k → own k = 0 ∧ k ≠ 0)
    (hb2 : Below w.heap.size w w2) (hg : w2.grownBy w3 cm.ownBlock) (hrow : w3.ownsRow 0 22 1 cm' (s.came.length + 1) (ce ++ [v]))
    (hob : cm'.ownBlock = cm.ownBlock ∨ ∃ k, cm'.ownBlock = some k ∧ w2.heap.size ≤ k) (hroom : s.came.length + 1 ≤ c.room) :
    SAt (w3.setCell ⟨b, 19, none⟩ cm') (ownTake own w.heap.size w3.heap.size (tg i 2) v.ownBlock) i b c { s with came := s.came ++ [m] } cl ch q cm' o ev qe (ce ++ [v]) oe ∧ UpdT v.ownBlock i own (ownTake own w.heap.size w3.heap.size (tg i 2) v.ownBlock) w (w3.setCell ⟨b, 19, none⟩ cm') := by
  have hz2 := hb2.size
  have hz3 := hg.size
  have hvlt := World.ownsRow.lt hv
  have hob' : ∀ k, cm'.ownBlock = some k → own k = tg i 2 ∨ w.heap.size ≤ k := by
    intro k hk
    rcases hob with e | ⟨k2, e, h2⟩
    · rw [e] at hk; exact .inl (h.lcm.rown k hk)
    · rw [e] at hk; simp at hk; omega
  have hK2 : Keeps (fun k => some k = cm.ownBlock) w w3 := (Keeps.of hb2).trans (Keeps.grown hg)
  have hro : ∀ k, some k = cm.ownBlock → own k = tg i 2 := fun k hk => h.lcm.rown k hk.symm
  have hold : ∀ k, k < w.heap.size → own k ≠ 0 → ownTake own w.heap.size w3.heap.size (tg i 2) v.ownBlock k = own k := fun k hk h0 => by
    unfold ownTake
    rw [if_neg (fun e => h0 (hfree k e.symm).1)]
    exact ownNew_old hk
  have hold0 : ownTake own w.heap.size w3.heap.size (tg i 2) v.ownBlock 0 = 0 := by
    unfold ownTake
    rw [if_neg (fun e => (hfree 0 e.symm).2 rfl), ownNew_old h.pos]
    exact h.own0
  have hbr : ¬ some b = cm.ownBlock := fun e => by have := hro b e; rw [h.ownb] at this; exact tg_ne (by omega) (by omega) (.inr (by omega)) this
  have hlt := h.lt
  have hhead3 : w3.heap[b]? = some (.cells (stCells c s ch q cm o ev) 84 (0, 0)) := by rw [hK2.block b hlt hbr]; exact h.head
  have hKb : Keeps (· = b) w3 (w3.setCell ⟨b, 19, none⟩ cm') := (Keeps.refl _ w3).setB _ _
  have hK : Keeps (fun k => some k = cm.ownBlock ∨ k = b) w (w3.setCell ⟨b, 19, none⟩ cm') := (hK2.mono (fun _ h => .inl h)).trans (hKb.mono (fun _ h => .inr h))
  have hne : ∀ p, p < 5 → p ≠ 0 → p ≠ 2 → ∀ k, (some k = cm.ownBlock ∨ k = b) → own k ≠ tg i p := by
    intro p hp h0 h3 k hk
    rcases hk with hk | hk
    · rw [hro k hk]; exact tg_ne (by omega) hp (.inr (by omega))
    · rw [hk, h.ownb]; exact tg_ne (by omega) hp (.inr (by omega))
  have hlc := (Array.getElem?_eq_some_iff.1 h.chan).1
  have hcb : ch ≠ b := fun e => by have := h.head; rw [← e, h.chan] at this; simp at this
  have hco : ¬ some ch = cm.ownBlock := fun e => by have := hro ch e; rw [h.ownc] at this; exact tg_ne (by omega) (by omega) (.inr (by omega)) this
  -- lists of other parts
  have hlst : ∀ p, p < 5 → p ≠ 0 → p ≠ 2 → ∀ v' es l, Lst w own (tg i p) v' es l → Lst (w3.setCell ⟨b, 19, none⟩ cm') (ownTake own w.heap.size w3.heap.size (tg i 2) v.ownBlock) (tg i p) v' es l := by
    intro p hp h0 h2 v' es l hL
    have hkk := hL.keeps (own' := own) hK (hne p hp h0 h2) (fun _ _ => rfl)
    refine ⟨hkk.row, fun k hk => ?_, fun j x mm h1 h2 => ⟨(hkk.each j x mm h1 h2).1, fun k hk => ?_⟩⟩
    · rw [hold k (World.ownsRow.lt hL.row k hk).2 (by rw [hL.rown k hk]; exact tg_pos _ _)]; exact hL.rown k hk
    · have hx := hL.each j x mm h1 h2
      rw [hold k (World.ownsRow.lt hx.1 k hk).2 (by rw [hx.2 k hk]; exact tg_pos _ _)]; exact hx.2 k hk
  refine ⟨⟨?_, (hold b hlt (by rw [h.ownb]; exact tg_pos _ _)).trans h.ownb, ?_, (hold ch hlc (by rw [h.ownc]; exact tg_pos _ _)).trans h.ownc, hlst 1 (by omega) (by omega) (by omega) _ _ _ h.lq, ?_, hlst 3 (by omega) (by omega) (by omega) _ _ _ h.lo, ?_, ?_, ?_, hold0, ?_, h.cok, ⟨h.sok.state, h.sok.vs, h.sok.va, h.sok.vr, h.sok.vm, h.sok.q20, h.sok.q32, h.sok.timer, h.sok.tries, by show (s.came ++ [m]).length ≤ c.room; rw [List.length_append]; exact hroom⟩⟩, ⟨?_, ?_⟩⟩
  · exact block_set hhead3 cm'
  · rw [hK.block ch hlc (fun hx => by rcases hx with hx | hx; exact hco hx; exact hcb hx)]; exact h.chan
  · refine ⟨?_, ?_, ?_⟩
    · have : (s.came ++ [m]).length = s.came.length + 1 := by simp
      rw [this]
      refine ownsRow_keepsB hrow hKb (fun k hk e => ?_)
      rcases hob' k hk with h1 | h1
      · rw [e, h.ownb] at h1; exact tg_ne (by omega) (by omega) (.inr (by omega)) h1
      · omega
    · intro k hk
      by_cases hT : some k = v.ownBlock
      · simp [ownTake, hT]
      · unfold ownTake
        rw [if_neg hT]
        rcases hob with e | ⟨k2, e, h2⟩
        · rw [e] at hk
          rw [ownNew_old (World.ownsRow.lt h.lcm.row k hk).2]
          exact h.lcm.rown k hk
        · rw [e] at hk
          simp at hk
          have h4 := (World.ownsRow.lt hrow k2 e).2
          exact ownNew_new (by omega) (by omega)
    · intro j x mm h1 h2
      have hl := h.lcm.len
      by_cases hj : j < ce.length
      · rw [List.getElem?_append_left hj] at h1
        rw [List.getElem?_append_left (by omega)] at h2
        have hx := h.lcm.each j x mm h1 h2
        refine ⟨ownsRow_keepsB hx.1 hK (fun k hk hX => ?_), fun k hk => ?_⟩
        · rcases hX with hX | hX
          · obtain ⟨c1, e1⟩ := ownsRow_isRow h.lcm.row hX.symm
            obtain ⟨c2, e2⟩ := ownsRow_isRow hx.1 hk
            rw [e1] at e2
            simp at e2
          · have := hx.2 k hk
            rw [hX, h.ownb] at this
            exact tg_ne (by omega) (by omega) (.inr (by omega)) this
        · rw [hold k (World.ownsRow.lt hx.1 k hk).2 (by rw [hx.2 k hk]; exact tg_pos _ _)]; exact hx.2 k hk
      · rw [List.getElem?_append_right (by omega)] at h1
        rw [List.getElem?_append_right (by omega)] at h2
        rw [hl] at h1
        obtain ⟨jj, hjj⟩ : ∃ jj, j - s.came.length = jj := ⟨_, rfl⟩
        rw [hjj] at h1 h2
        rcases jj with _ | jj
        · simp at h1 h2
          subst h1 h2
          refine ⟨ownsRow_keepsB hv hK (fun k hk hX => ?_), fun k hk => by simp [ownTake, hk]⟩
          have h0 := (hfree k hk).1
          rcases hX with hX | hX
          · rw [hro k hX] at h0; exact tg_pos _ _ h0
          · rw [hX, h.ownb] at h0; exact tg_pos _ _ h0
        · simp at h1
  · exact ownsRow_keepsB h.lev hK (fun k hk hX => hne 4 (by omega) (by omega) (by omega) k hX (h.owne k hk))
  · exact fun k hk => (hold k (World.ownsRow.lt h.lev k hk).2 (by rw [h.owne k hk]; exact tg_pos _ _)).trans (h.owne k hk)
  · refine h.ctl.keeps hK h.pos (fun hx => ?_)
    rcases hx with hx | hx
    · have := hro 0 hx; rw [h.own0] at this; exact tg_pos _ _ this.symm
    · have := h.ownb; rw [← hx, h.own0] at this; exact tg_pos _ _ this.symm
  · intro k hk
    rw [size_setCell] at hk
    unfold ownTake
    rw [if_neg (fun e => by have := (hvlt k e.symm).2; omega)]
    exact ownNew_0 (by omega) hk
  · exact hK.mono (fun k hk => by rcases hk with hk | hk; exact .inl ⟨2, by omega, hro k hk⟩; exact .inl ⟨0, by omega, by rw [hk]; exact h.ownb⟩)
  · intro k hk hT
    unfold ownTake
    rw [if_neg hT]
    exact ownNew_old hk
end
end Go.Proofs.YtkalonhalhdlaaaDoor

/-
  What one call of hearMessage does.
-/
namespace Go.Proofs.YtkalonhalhdlaaaDoor
open Go.RowKit

section
variable {w W : World} {own : Nat → Nat} {i b : Nat} {c : Cfg} {s : St} {cl : Bool} {ch : Nat} {q cm o ev : Value} {qe ce oe : List Value}

set_option maxHeartbeats 4000000 in
set_option maxRecDepth 100000 in
theorem hearMessage_any (h : SAt w own i b c s cl ch q cm o ev qe ce oe) (fa fk : Int) (fp : Bool) (ns nr : Int) (info : Msg) (fq : Option Addr) (fc : Nat) (hv : w.ownsRow 0 5 1 (.slice fq info.length fc) info.length (Lib.byteCells info)) (hfree : ∀ k, (Value.slice fq info.length fc).ownBlock = some k → own k = 0 ∧ k ≠ 0) (hl : s.out.length ≤ 2199023255552) :
    Calls Tryd.prog 90 #[.pointer (some ⟨b, 0, none⟩), frV (⟨fa, fk, fp, ns, nr, info⟩ : Fr) fq fc] w fun e w' => DidT (Value.slice fq info.length fc).ownBlock i b c (hearMsg c (⟨fa, fk, fp, ns, nr, info⟩ : Fr) s) cl own w e w' := by
  have hlt := h.lt
  have hbw : Below w.heap.size w (w.alloc (.cells #[.int .i64 fa, .int .i64 fk, .bool fp, .int .i64 ns, .int .i64 nr, .slice fq info.length fc] 24)) := (Below.refl _ w).alloc (Nat.le_refl _) _
  have h1 := h.later hbw
  have k1 := isHeldUp_any h1
  have k2 := fun n p => answer_any (h1.drewN n) p hl
  have hdef : hearMsg c (⟨fa, fk, fp, ns, nr, info⟩ : Fr) s = if heldUp c s then answer c fp s else if ns = s.vr then answer c fp { s with vr := follow c s.vr, came := s.came ++ [info], rejected := false } else if s.rejected = false then putR c ⟨0, 4, fp, 0, s.vr, []⟩ { s with rejected := true } else if fp then answer c true s else s := rfl
  have hhu : heldUp c s = (s.busy || decide (c.room ≤ s.came.length)) := rfl
  have c10 := h1.c_vr
  have c17 := h1.c_rejected
  have fz := h1.fz
  obtain ⟨y0, y1, y2, y3, y4, y5⟩ := frBox (alloc1_a w (.cells #[.int .i64 fa, .int .i64 fk, .bool fp, .int .i64 ns, .int .i64 nr, .slice fq info.length fc] 24))
  unfold frV
  simp only
  generalize heldUp c s = x at k1 hdef hhu
  have K2 := hide k2
  have HD := hide hdef
  have H1 := hide h1
  have H := hide h
  have HHU := hide hhu
  have HV := hide hv
  have HF := hide hfree
  clear h h1 k2 hdef hhu hv hfree
  cases x with
  | true =>
    have HD2 := hide ((unhide HD).trans (if_pos rfl))
    clear HD
    go_enter Tryd.func90, Tryd.ntmps90
    go_wp2_with fail
    refine k1.mono ?_
    rintro e w0 ⟨rfl, n0, rfl⟩
    clear k1
    go_wp2_with fail
    refine (unhide K2 _ fp).mono ?_
    rintro e w1 ⟨rfl, own2, h3, u3⟩
    have HR := hide (And.intro h3 (Upd.t (T := (Value.slice fq info.length fc).ownBlock) (Upd.of (w := w) (below_drewN ((Below.refl _ w).alloc (Nat.le_refl _) _) _) u3)))
    clear h3 u3 K2
    go_wp2
    first | go_end0 | refine bodyPost_ret (results_none rfl _ _ _) rfl ?_
    rw [unhide HD2]
    exact ⟨rfl, _, (unhide HR).1, (unhide HR).2⟩
  | false =>
    have HD1 := hide ((unhide HD).trans (if_neg (by simp)))
    clear HD
    by_cases hns : ns = s.vr
    · have HD2 := hide ((unhide HD1).trans (if_pos hns))
      clear HD1
      have tns : (ns == (s.vr : Int)) = true := by simp [hns]
      clear hns
      go_enter Tryd.func90, Tryd.ntmps90
      go_wp2_with fail
      refine k1.mono ?_
      rintro e w0 ⟨rfl, n0, rfl⟩
      clear k1
      go_wp2_with fail
      go_quiet (fail)
      go_wp2_with fail
      have hV := (unhide H1).drewN (n0 + nq)
      have hVb : Below w.heap.size w ((w.alloc (.cells #[.int .i64 fa, .int .i64 fk, .bool fp, .int .i64 ns, .int .i64 nr, .slice fq info.length fc] 24)).drewN (n0 + nq)) := below_drewN hbw _
      have hvV := ownsRow_keepsB (unhide HV) (Keeps.of (X := fun _ => False) hVb) (fun _ _ => id)
      have hbox : ((w.alloc (.cells #[.int .i64 fa, .int .i64 fk, .bool fp, .int .i64 ns, .int .i64 nr, .slice fq info.length fc] 24)).drewN (n0 + nq)).heap[w.heap.size]? = some (.cells #[.int .i64 fa, .int .i64 fk, .bool fp, .int .i64 ns, .int .i64 nr, .slice fq info.length fc] 24) := alloc1_a w _
      clear y0 y1 y2 y3 y4 y5 c10 c17 fz hbw H1 K2
      generalize (w.alloc (.cells #[.int .i64 fa, .int .i64 fk, .bool fp, .int .i64 ns, .int .i64 nr, .slice fq info.length fc] 24)).drewN (n0 + nq) = V at *
      have k3 := following_any hV s.vr hV.sok.vr
      refine k3.mono ?_
      rintro e w3 ⟨rfl, n3, rfl⟩
      have hV3 := hV.drewN n3
      have c10 := hV3.c_vr
      have fz3 := hV3.fz
      have hfl := follow_lt hV.cok s.vr
      have h4 := hV3.wrote (s' := { s with vr := follow c s.vr }) ((Keeps.refl _ _).setB 10 (.int .i64 (follow c s.vr : Nat))) (hV3.hd.vr _) rfl rfl rfl rfl ⟨hV3.sok.state, hV3.sok.vs, hV3.sok.va, hfl, hV3.sok.vm, hV3.sok.q20, hV3.sok.q32, hV3.sok.timer, hV3.sok.tries, hV3.sok.came⟩
      have u4 : Upd i own own w _ := Upd.of hVb (Upd.of (below_drewN (Below.refl _ V) n3) (hV3.upd ((Keeps.refl _ _).setB 10 (.int .i64 (follow c s.vr : Nat)))))
      have hbox4 : ((V.drewN n3).setCell ⟨b, 10, none⟩ (.int .i64 (follow c s.vr : Nat))).heap[w.heap.size]? = some (.cells #[.int .i64 fa, .int .i64 fk, .bool fp, .int .i64 ns, .int .i64 nr, .slice fq info.length fc] 24) := by rw [Below.heap_setCell _ _ _ _ (by show w.heap.size ≠ b; omega)]; exact hbox
      have hv4 : ((V.drewN n3).setCell ⟨b, 10, none⟩ (.int .i64 (follow c s.vr : Nat))).ownsRow 0 5 1 (.slice fq info.length fc) info.length (Lib.byteCells info) := ownsRow_keepsB hvV (((Keeps.refl _ V).drewN n3).setB 10 _) (fun k hk e => by have := ((unhide HF) k hk).1; rw [e, hV.ownb] at this; exact tg_pos _ _ this)
      obtain ⟨cp, ccap, hcm, hcc1, hcc2⟩ := h4.lcm.slice
      subst hcm
      have c19 := h4.c_cm
      have fz4 := h4.fz
      obtain ⟨z0, z1, z2, z3, z4, z5⟩ := frBox hbox4
      obtain ⟨i1, hi1, hy0, hy1, hy2⟩ := info_parts infoBytesS
      have hcl : s.came.length + 1 ≤ c.room := by have := unhide HHU; simp at this; omega
      have hr16 := hV.cok.room16
      have HO := hide (World.ownsRow.alloc (World.ownsRow.drew h4.lcm.row) (.cells #[.slice fq info.length fc] 22))
      have HM1 : Hid (s.came.length + 1 ≤ maxLen) := hide (by unfold maxLen; omega)
      have HM2 : Hid ((s.came.length + 1) * 24 ≤ 140737488355328) := hide (by omega)
      have hlt4 := h4.lt
      have hltx4 : w.heap.size < ((V.drewN n3).setCell ⟨b, 10, none⟩ (.int .i64 (follow c s.vr : Nat))).heap.size := (Array.getElem?_eq_some_iff.1 hbox4).1
      have H4 := hide h4
      have HV4 := hide hv4
      have U4 := hide u4
      have hn0 := (unhide H).new0 w.heap.size (Nat.le_refl _)
      have HBX := hide hbox4
      clear k3 hV3 h4 hv4 u4 hbox hbox4 hvV H HV HHU hVb hV hcc1 hcc2 hr16
      go_wp2_with fail
      generalize ((V.drewN n3).setCell ⟨b, 10, none⟩ (.int .i64 (follow c s.vr : Nat))) = V4 at *
      go_region_law ((refine step_append_own_at _ (by rfl) _ _ 46 (by rfl) 0 22 i1 _ 1 24 Tryd.underlying46 hi1 hy0 hy1 hy2 rfl (by decide) _ _ _ (by rfl) (unhide HO) ⟨V4.heap.size, 0, none⟩ 1 1 [.slice fq info.length fc] (by rfl) (by rfl) (cell_one_new _ _ _) (one_slice _ _ _) (unhide HM1) (unhide HM2) (Nat.zero_le _) ?_; intro cm5 w5 hrow5 hg5 hob5; obtain ⟨p5, cap5, hs5⟩ := row_slice hrow5; subst hs5; have hbl5 := ((Below.refl V4.heap.size V4).drew).alloc (o := .cells #[.slice fq info.length fc] 22) (Nat.le_refl _); have hh5 := (unhide H4).headAfterW hbl5 hg5 (fun k hk e => tg_ne (i := i) (j := i) (p := 2) (q := 0) (by omega) (by omega) (.inr (by omega)) (((unhide H4).lcm.rown k hk).symm.trans e)); have fz5 : ∀ j, w5.frozen? ⟨b, j, none⟩ = false := (fun j => Lib.frozen_of_heap hh5 j); have e19 : w5.cell? ⟨b, 19, none⟩ = some (.slice cp s.came.length ccap) := (by rw [Lib.cell_of_heap hh5]; rfl); have e17 : w5.cell? ⟨b, 17, none⟩ = some (.bool s.rejected) := (by rw [Lib.cell_of_heap hh5]; rfl)))
      all_goals
        have hS := (unhide H4).cameIn (unhide HV4) (unhide HF) hbl5 hg5 hrow5 (by rcases hob5 with e | e; exact .inl e; exact .inr ⟨_, e, Nat.le_refl _⟩) hcl
        have hbox5 := free_kept hbl5 hg5 (fun k hk => (unhide H4).lcm.rown k hk) (tg_pos _ _) hn0 (unhide HBX)
        obtain ⟨v0, v1, v2, v3, v4, v5⟩ := frBox hbox5
        have hne : ¬ w.heap.size = b := by omega
        have hne2 : ¬ b = w.heap.size := by omega
        have h6 := hS.1
        have h7 := h6.wrote (s' := { s with vr := follow c s.vr, came := s.came ++ [info], rejected := false }) ((Keeps.refl _ _).setB 17 (.bool false)) (h6.hd.rejected false) rfl rfl rfl rfl ⟨h6.sok.state, h6.sok.vs, h6.sok.va, h6.sok.vr, h6.sok.vm, h6.sok.q20, h6.sok.q32, h6.sok.timer, h6.sok.tries, h6.sok.came⟩
        have u7 := ((unhide U4).transT hS.2).trans (h6.upd ((Keeps.refl _ _).setB 17 (.bool false)))
        have K7 := hide (answer_any h7 fp hl)
        have U7 := hide u7
        clear hS h6 h7 u7 hbox5 hh5 hg5 hrow5 hob5 hbl5 H4 HV4 U4 HO HBX
        go_wp2_with fail
        refine (unhide K7).mono ?_
        rintro e w8 ⟨rfl, own8, h8, u8⟩
        have HR := hide (And.intro h8 ((unhide U7).trans u8))
        clear K7 U7 h8 u8
        go_wp2
        first | go_end0 | refine bodyPost_ret (results_none rfl _ _ _) rfl ?_
        rw [unhide HD2]
        exact ⟨rfl, _, (unhide HR).1, (unhide HR).2⟩
    · have HD3 := hide ((unhide HD1).trans (if_neg hns))
      have tns : (ns == (s.vr : Int)) = false := by simp [hns]
      clear HD1 hns
      by_cases hr : s.rejected = false
      · have HD2 := hide ((unhide HD3).trans (if_pos hr))
        rw [hr] at c17
        clear HD3 hr
        go_enter Tryd.func90, Tryd.ntmps90
        go_wp2_with fail
        refine k1.mono ?_
        rintro e w0 ⟨rfl, n0, rfl⟩
        clear k1
        go_wp2_with fail
        go_quiet (fail)
        have hV := (unhide H1).drewN (n0 + nq)
        have hVb : Below w.heap.size w ((w.alloc (.cells #[.int .i64 fa, .int .i64 fk, .bool fp, .int .i64 ns, .int .i64 nr, .slice fq info.length fc] 24)).drewN (n0 + nq)) := below_drewN hbw _
        have hbox : ((w.alloc (.cells #[.int .i64 fa, .int .i64 fk, .bool fp, .int .i64 ns, .int .i64 nr, .slice fq info.length fc] 24)).drewN (n0 + nq)).heap[w.heap.size]? = some (.cells #[.int .i64 fa, .int .i64 fk, .bool fp, .int .i64 ns, .int .i64 nr, .slice fq info.length fc] 24) := alloc1_a w _
        have hh0 := hV.wrote (s' := { s with rejected := true }) ((Keeps.refl _ _).setB 17 (.bool true)) (hV.hd.rejected true) rfl rfl rfl rfl ⟨hV.sok.state, hV.sok.vs, hV.sok.va, hV.sok.vr, hV.sok.vm, hV.sok.q20, hV.sok.q32, hV.sok.timer, hV.sok.tries, hV.sok.came⟩
        have k5 := fun U hU => sendResponse_any (hh0.later (w' := U) hU) ⟨0, 4, fp, 0, s.vr, []⟩ none 0 (src_nil _) hl
        simp only [frV_bare] at k5
        have K5 := hide k5
        have U5 := hide (Upd.of hVb (hV.upd ((Keeps.refl _ _).setB 17 (.bool true))))
        clear hV hbox hh0 k5 hVb
        have hne : ¬ w.heap.size = b := by omega
        have hne2 : ¬ b = w.heap.size := by omega
        have d2 : (((w.alloc (.cells #[.int .i64 fa, .int .i64 fk, .bool fp, .int .i64 ns, .int .i64 nr, .slice fq info.length fc] 24)).drewN (n0 + nq)).setCell ⟨b, 17, none⟩ (.bool true)).cell? ⟨w.heap.size, 2, none⟩ = some (.bool fp) := by
          rw [World.cell?_of_block (a := ⟨w.heap.size, 2, none⟩) (Below.heap_setCell _ _ _ w.heap.size (by show w.heap.size ≠ b; omega))]
          exact y2
        have d10 : (((w.alloc (.cells #[.int .i64 fa, .int .i64 fk, .bool fp, .int .i64 ns, .int .i64 nr, .slice fq info.length fc] 24)).drewN (n0 + nq)).setCell ⟨b, 17, none⟩ (.bool true)).cell? ⟨b, 10, none⟩ = some (.int .i64 s.vr) := by simp [go_sem, c10]
        have D2 := hide d2
        have D10 := hide d10
        clear d2 d10
        go_wp2_with fail
        have d2 := unhide D2
        have d10 := unhide D10
        clear D2 D10 y0 y1 y2 y3 y4 y5 c10 c17 fz K2 H1
        generalize (((w.alloc (.cells #[.int .i64 fa, .int .i64 fk, .bool fp, .int .i64 ns, .int .i64 nr, .slice fq info.length fc] 24)).drewN (n0 + nq)).setCell ⟨b, 17, none⟩ (.bool true)) = V5 at *
        go_region_with (go_at_call 86; refine (unhide K5 _ ?_).mono ?_; (first | exact Below.refl _ _ | exact (Below.refl _ V5).drew); rintro e w8 ⟨rfl, own8, h8, u8⟩)
        all_goals
          have HR := hide (And.intro h8 (Upd.t (T := (Value.slice fq info.length fc).ownBlock) ((unhide U5).trans (Upd.of (w := V5) (by first | exact Below.refl _ _ | exact (Below.refl _ V5).drew) u8))))
          clear h8 u8 K5 U5
          go_wp2
          first | go_end0 | refine bodyPost_ret (results_none rfl _ _ _) rfl ?_
          rw [unhide HD2]
          exact ⟨rfl, _, (unhide HR).1, (unhide HR).2⟩
      · have HD4 := hide ((unhide HD3).trans (if_neg hr))
        rw [eq_true_of_ne_false hr] at c17
        clear HD3 hr
        cases fp with
        | true =>
          have HD2 := hide ((unhide HD4).trans (if_pos rfl))
          clear HD4
          go_enter Tryd.func90, Tryd.ntmps90
          go_wp2_with fail
          refine k1.mono ?_
          rintro e w0 ⟨rfl, n0, rfl⟩
          clear k1
          go_wp2_with fail
          go_quiet (fail)
          go_wp2_with fail
          refine (unhide K2 _ true).mono ?_
          rintro e w1 ⟨rfl, own2, h3, u3⟩
          have HR := hide (And.intro h3 (Upd.t (T := (Value.slice fq info.length fc).ownBlock) (Upd.of (w := w) (below_drewN ((Below.refl _ w).alloc (Nat.le_refl _) _) _) u3)))
          clear h3 u3 K2
          go_wp2
          first | go_end0 | refine bodyPost_ret (results_none rfl _ _ _) rfl ?_
          rw [unhide HD2]
          exact ⟨rfl, _, (unhide HR).1, (unhide HR).2⟩
        | false =>
          have HD2 := hide ((unhide HD4).trans (if_neg (by simp)))
          clear HD4
          go_enter Tryd.func90, Tryd.ntmps90
          go_wp2_with fail
          refine k1.mono ?_
          rintro e w0 ⟨rfl, n0, rfl⟩
          clear k1
          go_wp2_with fail
          go_quiet (fail)
          go_wp2
          first | go_end0 | refine bodyPost_ret (results_none rfl _ _ _) rfl ?_
          rw [unhide HD2]
          exact Did.t ((unhide H).idleB (below_drewN ((Below.refl _ w).alloc (Nat.le_refl _) _) _))
end
end Go.Proofs.YtkalonhalhdlaaaDoor

/-
  What one call of hearNumbered does.
-/
namespace Go.Proofs.YtkalonhalhdlaaaDoor
open Go.RowKit

section
variable {w W : World} {own : Nat → Nat} {i b : Nat} {c : Cfg} {s : St} {cl : Bool} {ch : Nat} {q cm o ev : Value} {qe ce oe : List Value}

theorem kept_free {own1 : Nat → Nat} {w1 : World} {k : Nat} {x : Obj} (u : Upd i own own1 W w1) (h0 : own k = 0) (hx : W.heap[k]? = some x) : w1.heap[k]? = some x := by
  rw [u.keeps.block k (Array.getElem?_eq_some_iff.1 hx).1 (by rintro ⟨p, _, e⟩; rw [h0] at e; exact tg_pos _ _ e.symm)]
  exact hx
theorem row_free {own1 : Nat → Nat} {w1 : World} {e : TypeId} {v : Value} {n : Nat} {xs : List Value} (u : Upd i own own1 W w1) (hv : W.ownsRow 0 e 1 v n xs) (hf : ∀ k, v.ownBlock = some k → own k = 0 ∧ k ≠ 0) : w1.ownsRow 0 e 1 v n xs ∧ ∀ k, v.ownBlock = some k → own1 k = 0 ∧ k ≠ 0 :=
  ⟨ownsRow_keepsB hv u.keeps (fun k hk => by rintro ⟨p, _, e⟩; rw [(hf k hk).1] at e; exact tg_pos _ _ e.symm), fun k hk => ⟨(u.same k (World.ownsRow.lt hv k hk).2).trans (hf k hk).1, (hf k hk).2⟩⟩
theorem acknowledge_out (nr : Nat) : (acknowledge c nr s).out = s.out := by unfold acknowledge; split <;> rfl
theorem acknowledge_events (nr : Nat) : (acknowledge c nr s).events = s.events := by unfold acknowledge; split <;> rfl
theorem hearMsg_out (f : Fr) : (hearMsg c f s).out.length ≤ s.out.length + 1 := by
  unfold hearMsg
  split
  · simp [answer, putR, put]
  · split
    · simp [answer, putR, put]
    · split
      · simp [putR, put]
      · split
        · simp [answer, putR, put]
        · omega
theorem hearReady_out (f : Fr) : (hearReady c f s).out.length ≤ s.out.length + 1 := by
  unfold hearReady
  dsimp only
  split
  · simp
  · split
    · simp [answer, putR, put]
    · split <;> simp

set_option maxHeartbeats 4000000 in
set_option maxRecDepth 100000 in
theorem hearNum1_any (h : SAt w own i b c s cl ch q cm o ev qe ce oe) (fa : Int) (fp : Bool) (ns : Int) (nr : Nat) (info : Msg) (fq : Option Addr) (fc : Nat) (hnr : nr < c.m) (hvm : ahead c s s.vm ≤ s.queue.length) (hv : w.ownsRow 0 5 1 (.slice fq info.length fc) info.length (Lib.byteCells info)) (hfree : ∀ k, (Value.slice fq info.length fc).ownBlock = some k → own k = 0 ∧ k ≠ 0) (hl : s.out.length + 18 ≤ 2199023255552) (hl2 : s.events.length ≤ 2199023255552) :
    Calls Tryd.prog 81 #[.pointer (some ⟨b, 0, none⟩), frV (⟨fa, 1, fp, ns, (nr : Nat), info⟩ : Fr) fq fc] w fun e w' => DidT (Value.slice fq info.length fc).ownBlock i b c (hearNum c (⟨fa, 1, fp, ns, (nr : Nat), info⟩ : Fr) s) cl own w e w' := by
  have hlt := h.lt
  have hbw : Below w.heap.size w (w.alloc (.cells #[.int .i64 fa, .int .i64 (1 : Int), .bool fp, .int .i64 ns, .int .i64 (nr : Nat), .slice fq info.length fc] 24)) := (Below.refl _ w).alloc (Nat.le_refl _) _
  have h1 := h.later hbw
  have hn0 := h.new0 w.heap.size (Nat.le_refl _)
  have k1 := isGood_any h1 nr hnr
  have hdef : hearNum c (⟨fa, 1, fp, ns, (nr : Nat), info⟩ : Fr) s = if isGood c s nr = false then fallApart c (⟨fa, 1, fp, ns, (nr : Nat), info⟩ : Fr) s else pump c (hearMsg c (⟨fa, 1, fp, ns, (nr : Nat), info⟩ : Fr) (acknowledge c nr s)) := rfl
  have kf := fun n => fallApart_any (h1.drewN n) (⟨fa, 1, fp, ns, (nr : Nat), info⟩ : Fr) fq fc (by omega) hl2
  have ka := fun (hg : isGood c s nr = true) n => acknowledge_any (h1.drewN n) nr hnr (Nat.le_trans (by simpa [isGood] using hg) hvm)
  have hv1 := ownsRow_keepsB hv (Keeps.of (X := fun _ => False) hbw) (fun _ _ => id)
  unfold frV at kf ⊢
  simp only at kf ⊢
  obtain ⟨y0, y1, y2, y3, y4, y5⟩ := frBox (alloc1_a w (.cells #[.int .i64 fa, .int .i64 (1 : Int), .bool fp, .int .i64 ns, .int .i64 (nr : Nat), .slice fq info.length fc] 24))
  have KF := hide kf
  have KA := hide ka
  have HD := hide hdef
  have HV := hide hv1
  have HF := hide hfree
  have HB := hide hbw
  clear h h1 kf ka hdef hv hv1 hfree hbw
  cases hg : isGood c s nr with
  | false =>
    rw [hg] at k1
    have HD2 := hide ((unhide HD).trans (if_pos hg))
    clear HD KA hg
    go_enter Tryd.func81, Tryd.ntmps81
    go_wp2_with fail
    refine k1.mono ?_
    rintro e w1 ⟨rfl, n1, rfl⟩
    clear k1
    go_wp2_with fail
    refine (unhide KF _).mono ?_
    rintro e w2 ⟨rfl, own2, h3, u3⟩
    have HR := hide (And.intro h3 (Upd.t (T := (Value.slice fq info.length fc).ownBlock) (Upd.of (w := w) (below_drewN (unhide HB) _) u3)))
    clear h3 u3 KF
    go_wp2
    first | go_end0 | refine bodyPost_ret (results_none rfl _ _ _) rfl ?_
    rw [unhide HD2]
    exact ⟨rfl, _, (unhide HR).1, (unhide HR).2⟩
  | true =>
    rw [hg] at k1
    have HD2 := hide ((unhide HD).trans (if_neg (by rw [hg]; simp)))
    have KA2 := hide (unhide KA hg)
    clear HD KA KF hg
    go_enter Tryd.func81, Tryd.ntmps81
    go_wp2_with fail
    refine k1.mono ?_
    rintro e w1 ⟨rfl, n1, rfl⟩
    clear k1
    go_wp2_with fail
    refine (unhide KA2 _).mono ?_
    rintro e w2 ⟨rfl, own2, ⟨ch2, q2, cm2, o2, ev2, qe2, ce2, oe2, h2⟩, u2⟩
    have hbox2 := kept_free u2 hn0 (show ((w.alloc (.cells #[.int .i64 fa, .int .i64 (1 : Int), .bool fp, .int .i64 ns, .int .i64 (nr : Nat), .slice fq info.length fc] 24)).drewN n1).heap[w.heap.size]? = some (.cells #[.int .i64 fa, .int .i64 (1 : Int), .bool fp, .int .i64 ns, .int .i64 (nr : Nat), .slice fq info.length fc] 24) from alloc1_a w _)
    obtain ⟨z0, z1, z2, z3, z4, z5⟩ := frBox hbox2
    have hrf := row_free u2 (unhide HV) (unhide HF)
    have ho2 : (acknowledge c nr s).out.length = s.out.length := by rw [acknowledge_out]
    have U2 := hide (Upd.of (w := w) (below_drewN (unhide HB) _) u2)
    have kh := hearMessage_any h2 fa 1 fp ns (nr : Nat) info fq fc hrf.1 hrf.2 (by omega)
    unfold frV at kh
    simp only at kh
    have K3 := hide kh
    clear KA2 u2 h2 hrf kh hbox2 y0 y1 y2 y3 y4 y5
    go_wp2_with fail
    refine (unhide K3).mono ?_
    rintro e w3 ⟨rfl, own3, ⟨ch3, q3, cm3, o3, ev3, qe3, ce3, oe3, h3⟩, u3⟩
    have ho3 := hearMsg_out (c := c) (s := acknowledge c nr s) (⟨fa, 1, fp, ns, (nr : Nat), info⟩ : Fr)
    have K4 := hide (pump_any h3 (by omega))
    have U3 := hide ((unhide U2).transT u3)
    clear K3 u3 h3 U2
    go_wp2_with fail
    refine (unhide K4).mono ?_
    rintro e w4 ⟨rfl, own4, h4, u4⟩
    have HR := hide (And.intro h4 ((unhide U3).trans u4))
    clear h4 u4 K4 U3
    go_wp2
    first | go_end0 | refine bodyPost_ret (results_none rfl _ _ _) rfl ?_
    rw [unhide HD2]
    exact ⟨rfl, _, (unhide HR).1, (unhide HR).2⟩

set_option maxHeartbeats 4000000 in
set_option maxRecDepth 100000 in
theorem hearNum2_any (h : SAt w own i b c s cl ch q cm o ev qe ce oe) (fa : Int) (fp : Bool) (ns : Int) (nr : Nat) (info : Msg) (fq : Option Addr) (fc : Nat) (hnr : nr < c.m) (hvm : ahead c s s.vm ≤ s.queue.length) (hv : w.ownsRow 0 5 1 (.slice fq info.length fc) info.length (Lib.byteCells info)) (hfree : ∀ k, (Value.slice fq info.length fc).ownBlock = some k → own k = 0 ∧ k ≠ 0) (hl : s.out.length + 18 ≤ 2199023255552) (hl2 : s.events.length ≤ 2199023255552) :
    Calls Tryd.prog 81 #[.pointer (some ⟨b, 0, none⟩), frV (⟨fa, 2, fp, ns, (nr : Nat), info⟩ : Fr) fq fc] w fun e w' => DidT (Value.slice fq info.length fc).ownBlock i b c (hearNum c (⟨fa, 2, fp, ns, (nr : Nat), info⟩ : Fr) s) cl own w e w' := by
  have hlt := h.lt
  have hbw : Below w.heap.size w (w.alloc (.cells #[.int .i64 fa, .int .i64 (2 : Int), .bool fp, .int .i64 ns, .int .i64 (nr : Nat), .slice fq info.length fc] 24)) := (Below.refl _ w).alloc (Nat.le_refl _) _
  have h1 := h.later hbw
  have hn0 := h.new0 w.heap.size (Nat.le_refl _)
  have k1 := isGood_any h1 nr hnr
  have hdef : hearNum c (⟨fa, 2, fp, ns, (nr : Nat), info⟩ : Fr) s = if isGood c s nr = false then fallApart c (⟨fa, 2, fp, ns, (nr : Nat), info⟩ : Fr) s else pump c (hearReady c (⟨fa, 2, fp, ns, (nr : Nat), info⟩ : Fr) (acknowledge c nr s)) := rfl
  have kf := fun n => fallApart_any (h1.drewN n) (⟨fa, 2, fp, ns, (nr : Nat), info⟩ : Fr) fq fc (by omega) hl2
  have ka := fun (hg : isGood c s nr = true) n => acknowledge_any (h1.drewN n) nr hnr (Nat.le_trans (by simpa [isGood] using hg) hvm)
  have hv1 := ownsRow_keepsB hv (Keeps.of (X := fun _ => False) hbw) (fun _ _ => id)
  unfold frV at kf ⊢
  simp only at kf ⊢
  obtain ⟨y0, y1, y2, y3, y4, y5⟩ := frBox (alloc1_a w (.cells #[.int .i64 fa, .int .i64 (2 : Int), .bool fp, .int .i64 ns, .int .i64 (nr : Nat), .slice fq info.length fc] 24))
  have KF := hide kf
  have KA := hide ka
  have HD := hide hdef
  have HV := hide hv1
  have HF := hide hfree
  have HB := hide hbw
  clear h h1 kf ka hdef hv hv1 hfree hbw
  cases hg : isGood c s nr with
  | false =>
    rw [hg] at k1
    have HD2 := hide ((unhide HD).trans (if_pos hg))
    clear HD KA hg
    go_enter Tryd.func81, Tryd.ntmps81
    go_wp2_with fail
    refine k1.mono ?_
    rintro e w1 ⟨rfl, n1, rfl⟩
    clear k1
    go_wp2_with fail
    refine (unhide KF _).mono ?_
    rintro e w2 ⟨rfl, own2, h3, u3⟩
    have HR := hide (And.intro h3 (Upd.t (T := (Value.slice fq info.length fc).ownBlock) (Upd.of (w := w) (below_drewN (unhide HB) _) u3)))
    clear h3 u3 KF
    go_wp2
    first | go_end0 | refine bodyPost_ret (results_none rfl _ _ _) rfl ?_
    rw [unhide HD2]
    exact ⟨rfl, _, (unhide HR).1, (unhide HR).2⟩
  | true =>
    rw [hg] at k1
    have HD2 := hide ((unhide HD).trans (if_neg (by rw [hg]; simp)))
    have KA2 := hide (unhide KA hg)
    clear HD KA KF hg
    go_enter Tryd.func81, Tryd.ntmps81
    go_wp2_with fail
    refine k1.mono ?_
    rintro e w1 ⟨rfl, n1, rfl⟩
    clear k1
    go_wp2_with fail
    refine (unhide KA2 _).mono ?_
    rintro e w2 ⟨rfl, own2, ⟨ch2, q2, cm2, o2, ev2, qe2, ce2, oe2, h2⟩, u2⟩
    have hbox2 := kept_free u2 hn0 (show ((w.alloc (.cells #[.int .i64 fa, .int .i64 (2 : Int), .bool fp, .int .i64 ns, .int .i64 (nr : Nat), .slice fq info.length fc] 24)).drewN n1).heap[w.heap.size]? = some (.cells #[.int .i64 fa, .int .i64 (2 : Int), .bool fp, .int .i64 ns, .int .i64 (nr : Nat), .slice fq info.length fc] 24) from alloc1_a w _)
    obtain ⟨z0, z1, z2, z3, z4, z5⟩ := frBox hbox2
    have hrf := row_free u2 (unhide HV) (unhide HF)
    have ho2 : (acknowledge c nr s).out.length = s.out.length := by rw [acknowledge_out]
    have U2 := hide (Upd.of (w := w) (below_drewN (unhide HB) _) u2)
    have kh := hearReady2_any h2 fa ns fp nr info fq fc hnr (by omega)
    unfold frV at kh
    simp only at kh
    have K3 := hide kh
    clear KA2 u2 h2 hrf kh hbox2 y0 y1 y2 y3 y4 y5
    go_wp2_with fail
    refine (unhide K3).mono ?_
    rintro e w3 ⟨rfl, own3, ⟨ch3, q3, cm3, o3, ev3, qe3, ce3, oe3, h3⟩, u3⟩
    have ho3 := hearReady_out (c := c) (s := acknowledge c nr s) (⟨fa, 2, fp, ns, (nr : Nat), info⟩ : Fr)
    have K4 := hide (pump_any h3 (by omega))
    have U3 := hide (Upd.t (T := (Value.slice fq info.length fc).ownBlock) ((unhide U2).trans u3))
    clear K3 u3 h3 U2
    go_wp2_with fail
    refine (unhide K4).mono ?_
    rintro e w4 ⟨rfl, own4, h4, u4⟩
    have HR := hide (And.intro h4 ((unhide U3).trans u4))
    clear h4 u4 K4 U3
    go_wp2
    first | go_end0 | refine bodyPost_ret (results_none rfl _ _ _) rfl ?_
    rw [unhide HD2]
    exact ⟨rfl, _, (unhide HR).1, (unhide HR).2⟩

set_option maxHeartbeats 4000000 in
set_option maxRecDepth 100000 in
theorem hearNum3_any (h : SAt w own i b c s cl ch q cm o ev qe ce oe) (fa : Int) (fp : Bool) (ns : Int) (nr : Nat) (info : Msg) (fq : Option Addr) (fc : Nat) (hnr : nr < c.m) (hvm : ahead c s s.vm ≤ s.queue.length) (hv : w.ownsRow 0 5 1 (.slice fq info.length fc) info.length (Lib.byteCells info)) (hfree : ∀ k, (Value.slice fq info.length fc).ownBlock = some k → own k = 0 ∧ k ≠ 0) (hl : s.out.length + 18 ≤ 2199023255552) (hl2 : s.events.length ≤ 2199023255552) :
    Calls Tryd.prog 81 #[.pointer (some ⟨b, 0, none⟩), frV (⟨fa, 3, fp, ns, (nr : Nat), info⟩ : Fr) fq fc] w fun e w' => DidT (Value.slice fq info.length fc).ownBlock i b c (hearNum c (⟨fa, 3, fp, ns, (nr : Nat), info⟩ : Fr) s) cl own w e w' := by
  have hlt := h.lt
  have hbw : Below w.heap.size w (w.alloc (.cells #[.int .i64 fa, .int .i64 (3 : Int), .bool fp, .int .i64 ns, .int .i64 (nr : Nat), .slice fq info.length fc] 24)) := (Below.refl _ w).alloc (Nat.le_refl _) _
  have h1 := h.later hbw
  have hn0 := h.new0 w.heap.size (Nat.le_refl _)
  have k1 := isGood_any h1 nr hnr
  have hdef : hearNum c (⟨fa, 3, fp, ns, (nr : Nat), info⟩ : Fr) s = if isGood c s nr = false then fallApart c (⟨fa, 3, fp, ns, (nr : Nat), info⟩ : Fr) s else pump c (hearReady c (⟨fa, 3, fp, ns, (nr : Nat), info⟩ : Fr) (acknowledge c nr s)) := rfl
  have kf := fun n => fallApart_any (h1.drewN n) (⟨fa, 3, fp, ns, (nr : Nat), info⟩ : Fr) fq fc (by omega) hl2
  have ka := fun (hg : isGood c s nr = true) n => acknowledge_any (h1.drewN n) nr hnr (Nat.le_trans (by simpa [isGood] using hg) hvm)
  have hv1 := ownsRow_keepsB hv (Keeps.of (X := fun _ => False) hbw) (fun _ _ => id)
  unfold frV at kf ⊢
  simp only at kf ⊢
  obtain ⟨y0, y1, y2, y3, y4, y5⟩ := frBox (alloc1_a w (.cells #[.int .i64 fa, .int .i64 (3 : Int), .bool fp, .int .i64 ns, .int .i64 (nr : Nat), .slice fq info.length fc] 24))
  have KF := hide kf
  have KA := hide ka
  have HD := hide hdef
  have HV := hide hv1
  have HF := hide hfree
  have HB := hide hbw
  clear h h1 kf ka hdef hv hv1 hfree hbw
  cases hg : isGood c s nr with
  | false =>
    rw [hg] at k1
    have HD2 := hide ((unhide HD).trans (if_pos hg))
    clear HD KA hg
    go_enter Tryd.func81, Tryd.ntmps81
    go_wp2_with fail
    refine k1.mono ?_
    rintro e w1 ⟨rfl, n1, rfl⟩
    clear k1
    go_wp2_with fail
    refine (unhide KF _).mono ?_
    rintro e w2 ⟨rfl, own2, h3, u3⟩
    have HR := hide (And.intro h3 (Upd.t (T := (Value.slice fq info.length fc).ownBlock) (Upd.of (w := w) (below_drewN (unhide HB) _) u3)))
    clear h3 u3 KF
    go_wp2
    first | go_end0 | refine bodyPost_ret (results_none rfl _ _ _) rfl ?_
    rw [unhide HD2]
    exact ⟨rfl, _, (unhide HR).1, (unhide HR).2⟩
  | true =>
    rw [hg] at k1
    have HD2 := hide ((unhide HD).trans (if_neg (by rw [hg]; simp)))
    have KA2 := hide (unhide KA hg)
    clear HD KA KF hg
    go_enter Tryd.func81, Tryd.ntmps81
    go_wp2_with fail
    refine k1.mono ?_
    rintro e w1 ⟨rfl, n1, rfl⟩
    clear k1
    go_wp2_with fail
    refine (unhide KA2 _).mono ?_
    rintro e w2 ⟨rfl, own2, ⟨ch2, q2, cm2, o2, ev2, qe2, ce2, oe2, h2⟩, u2⟩
    have hbox2 := kept_free u2 hn0 (show ((w.alloc (.cells #[.int .i64 fa, .int .i64 (3 : Int), .bool fp, .int .i64 ns, .int .i64 (nr : Nat), .slice fq info.length fc] 24)).drewN n1).heap[w.heap.size]? = some (.cells #[.int .i64 fa, .int .i64 (3 : Int), .bool fp, .int .i64 ns, .int .i64 (nr : Nat), .slice fq info.length fc] 24) from alloc1_a w _)
    obtain ⟨z0, z1, z2, z3, z4, z5⟩ := frBox hbox2
    have hrf := row_free u2 (unhide HV) (unhide HF)
    have ho2 : (acknowledge c nr s).out.length = s.out.length := by rw [acknowledge_out]
    have U2 := hide (Upd.of (w := w) (below_drewN (unhide HB) _) u2)
    have kh := hearReady3_any h2 fa ns fp nr info fq fc hnr (by omega)
    unfold frV at kh
    simp only at kh
    have K3 := hide kh
    clear KA2 u2 h2 hrf kh hbox2 y0 y1 y2 y3 y4 y5
    go_wp2_with fail
    refine (unhide K3).mono ?_
    rintro e w3 ⟨rfl, own3, ⟨ch3, q3, cm3, o3, ev3, qe3, ce3, oe3, h3⟩, u3⟩
    have ho3 := hearReady_out (c := c) (s := acknowledge c nr s) (⟨fa, 3, fp, ns, (nr : Nat), info⟩ : Fr)
    have K4 := hide (pump_any h3 (by omega))
    have U3 := hide (Upd.t (T := (Value.slice fq info.length fc).ownBlock) ((unhide U2).trans u3))
    clear K3 u3 h3 U2
    go_wp2_with fail
    refine (unhide K4).mono ?_
    rintro e w4 ⟨rfl, own4, h4, u4⟩
    have HR := hide (And.intro h4 ((unhide U3).trans u4))
    clear h4 u4 K4 U3
    go_wp2
    first | go_end0 | refine bodyPost_ret (results_none rfl _ _ _) rfl ?_
    rw [unhide HD2]
    exact ⟨rfl, _, (unhide HR).1, (unhide HR).2⟩

set_option maxHeartbeats 4000000 in
set_option maxRecDepth 100000 in
theorem hearNum4_any (h : SAt w own i b c s cl ch q cm o ev qe ce oe) (fa : Int) (fp : Bool) (ns : Int) (nr : Nat) (info : Msg) (fq : Option Addr) (fc : Nat) (hnr : nr < c.m) (hvm : ahead c s s.vm ≤ s.queue.length) (hv : w.ownsRow 0 5 1 (.slice fq info.length fc) info.length (Lib.byteCells info)) (hfree : ∀ k, (Value.slice fq info.length fc).ownBlock = some k → own k = 0 ∧ k ≠ 0) (hl : s.out.length + 18 ≤ 2199023255552) (hl2 : s.events.length ≤ 2199023255552) :
    Calls Tryd.prog 81 #[.pointer (some ⟨b, 0, none⟩), frV (⟨fa, 4, fp, ns, (nr : Nat), info⟩ : Fr) fq fc] w fun e w' => DidT (Value.slice fq info.length fc).ownBlock i b c (hearNum c (⟨fa, 4, fp, ns, (nr : Nat), info⟩ : Fr) s) cl own w e w' := by
  have hlt := h.lt
  have hbw : Below w.heap.size w (w.alloc (.cells #[.int .i64 fa, .int .i64 (4 : Int), .bool fp, .int .i64 ns, .int .i64 (nr : Nat), .slice fq info.length fc] 24)) := (Below.refl _ w).alloc (Nat.le_refl _) _
  have h1 := h.later hbw
  have hn0 := h.new0 w.heap.size (Nat.le_refl _)
  have k1 := isGood_any h1 nr hnr
  have hdef : hearNum c (⟨fa, 4, fp, ns, (nr : Nat), info⟩ : Fr) s = if isGood c s nr = false then fallApart c (⟨fa, 4, fp, ns, (nr : Nat), info⟩ : Fr) s else pump c (hearReady c (⟨fa, 4, fp, ns, (nr : Nat), info⟩ : Fr) (acknowledge c nr s)) := rfl
  have kf := fun n => fallApart_any (h1.drewN n) (⟨fa, 4, fp, ns, (nr : Nat), info⟩ : Fr) fq fc (by omega) hl2
  have ka := fun (hg : isGood c s nr = true) n => acknowledge_any (h1.drewN n) nr hnr (Nat.le_trans (by simpa [isGood] using hg) hvm)
  have hv1 := ownsRow_keepsB hv (Keeps.of (X := fun _ => False) hbw) (fun _ _ => id)
  unfold frV at kf ⊢
  simp only at kf ⊢
  obtain ⟨y0, y1, y2, y3, y4, y5⟩ := frBox (alloc1_a w (.cells #[.int .i64 fa, .int .i64 (4 : Int), .bool fp, .int .i64 ns, .int .i64 (nr : Nat), .slice fq info.length fc] 24))
  have KF := hide kf
  have KA := hide ka
  have HD := hide hdef
  have HV := hide hv1
  have HF := hide hfree
  have HB := hide hbw
  clear h h1 kf ka hdef hv hv1 hfree hbw
  cases hg : isGood c s nr with
  | false =>
    rw [hg] at k1
    have HD2 := hide ((unhide HD).trans (if_pos hg))
    clear HD KA hg
    go_enter Tryd.func81, Tryd.ntmps81
    go_wp2_with fail
    refine k1.mono ?_
    rintro e w1 ⟨rfl, n1, rfl⟩
    clear k1
    go_wp2_with fail
    refine (unhide KF _).mono ?_
    rintro e w2 ⟨rfl, own2, h3, u3⟩
    have HR := hide (And.intro h3 (Upd.t (T := (Value.slice fq info.length fc).ownBlock) (Upd.of (w := w) (below_drewN (unhide HB) _) u3)))
    clear h3 u3 KF
    go_wp2
    first | go_end0 | refine bodyPost_ret (results_none rfl _ _ _) rfl ?_
    rw [unhide HD2]
    exact ⟨rfl, _, (unhide HR).1, (unhide HR).2⟩
  | true =>
    rw [hg] at k1
    have HD2 := hide ((unhide HD).trans (if_neg (by rw [hg]; simp)))
    have KA2 := hide (unhide KA hg)
    clear HD KA KF hg
    go_enter Tryd.func81, Tryd.ntmps81
    go_wp2_with fail
    refine k1.mono ?_
    rintro e w1 ⟨rfl, n1, rfl⟩
    clear k1
    go_wp2_with fail
    refine (unhide KA2 _).mono ?_
    rintro e w2 ⟨rfl, own2, ⟨ch2, q2, cm2, o2, ev2, qe2, ce2, oe2, h2⟩, u2⟩
    have hbox2 := kept_free u2 hn0 (show ((w.alloc (.cells #[.int .i64 fa, .int .i64 (4 : Int), .bool fp, .int .i64 ns, .int .i64 (nr : Nat), .slice fq info.length fc] 24)).drewN n1).heap[w.heap.size]? = some (.cells #[.int .i64 fa, .int .i64 (4 : Int), .bool fp, .int .i64 ns, .int .i64 (nr : Nat), .slice fq info.length fc] 24) from alloc1_a w _)
    obtain ⟨z0, z1, z2, z3, z4, z5⟩ := frBox hbox2
    have hrf := row_free u2 (unhide HV) (unhide HF)
    have ho2 : (acknowledge c nr s).out.length = s.out.length := by rw [acknowledge_out]
    have U2 := hide (Upd.of (w := w) (below_drewN (unhide HB) _) u2)
    have kh := hearReady4_any h2 fa ns fp nr info fq fc hnr (by omega)
    unfold frV at kh
    simp only at kh
    have K3 := hide kh
    clear KA2 u2 h2 hrf kh hbox2 y0 y1 y2 y3 y4 y5
    go_wp2_with fail
    refine (unhide K3).mono ?_
    rintro e w3 ⟨rfl, own3, ⟨ch3, q3, cm3, o3, ev3, qe3, ce3, oe3, h3⟩, u3⟩
    have ho3 := hearReady_out (c := c) (s := acknowledge c nr s) (⟨fa, 4, fp, ns, (nr : Nat), info⟩ : Fr)
    have K4 := hide (pump_any h3 (by omega))
    have U3 := hide (Upd.t (T := (Value.slice fq info.length fc).ownBlock) ((unhide U2).trans u3))
    clear K3 u3 h3 U2
    go_wp2_with fail
    refine (unhide K4).mono ?_
    rintro e w4 ⟨rfl, own4, h4, u4⟩
    have HR := hide (And.intro h4 ((unhide U3).trans u4))
    clear h4 u4 K4 U3
    go_wp2
    first | go_end0 | refine bodyPost_ret (results_none rfl _ _ _) rfl ?_
    rw [unhide HD2]
    exact ⟨rfl, _, (unhide HR).1, (unhide HR).2⟩
end
end Go.Proofs.YtkalonhalhdlaaaDoor

/-
  What one call of hearUp, hearBroken, hearFrame does.
-/
namespace Go.Proofs.YtkalonhalhdlaaaDoor
open Go.RowKit

section
variable {w W : World} {own : Nat → Nat} {i b : Nat} {c : Cfg} {s : St} {cl : Bool} {ch : Nat} {q cm o ev : Value} {qe ce oe : List Value}

theorem UpdT.of {T : Option Nat} {own1 : Nat → Nat} {w1 : World} (hb : Below w.heap.size w W) (h : UpdT T i own own1 W w1) : UpdT T i own own1 w w1 :=
  (show Upd i own own w W from ⟨Keeps.of hb, fun _ _ => rfl⟩).transT h

set_option maxHeartbeats 4000000 in
set_option maxRecDepth 100000 in
theorem hearUp_any (h : SAt w own i b c s cl ch q cm o ev qe ce oe) (fa fk : Int) (fp : Bool) (ns : Int) (nr : Nat) (info : Msg) (fq : Option Addr) (fc : Nat) (hnr : nr < c.m) (hvm : ahead c s s.vm ≤ s.queue.length) (hv : w.ownsRow 0 5 1 (.slice fq info.length fc) info.length (Lib.byteCells info)) (hfree : ∀ k, (Value.slice fq info.length fc).ownBlock = some k → own k = 0 ∧ k ≠ 0) (hl : s.out.length + 18 ≤ 2199023255552) (hl2 : s.events.length + 2 ≤ 2199023255552) :
    Calls Tryd.prog 64 #[.pointer (some ⟨b, 0, none⟩), frV (⟨fa, fk, fp, ns, (nr : Nat), info⟩ : Fr) fq fc] w fun e w' => DidT (Value.slice fq info.length fc).ownBlock i b c (hearUp c (⟨fa, fk, fp, ns, (nr : Nat), info⟩ : Fr) s) cl own w e w' := by
  have hlt := h.lt
  have hbw : Below w.heap.size w (w.alloc (.cells #[.int .i64 fa, .int .i64 fk, .bool fp, .int .i64 ns, .int .i64 (nr : Nat), .slice fq info.length fc] 24)) := (Below.refl _ w).alloc (Nat.le_refl _) _
  have k5 := fun V (hV : Below w.heap.size w V) => accept_any (h.later hV) 2 (⟨fa, fk, fp, ns, (nr : Nat), info⟩ : Fr) fq fc (by omega) (by omega)
  have k6 := fun V (hV : Below w.heap.size w V) => agree_any (h.later hV) (⟨fa, fk, fp, ns, (nr : Nat), info⟩ : Fr) fq fc (by omega) (by omega)
  have k8 := fun V (hV : Below w.heap.size w V) => goDown_any (h.later hV) 3 (by omega)
  have k7 := fun V (hV : Below w.heap.size w V) => tell_any (h.later hV) 2 (by omega)
  have hvV := fun V (hV : Below w.heap.size w V) => ownsRow_keepsB hv (Keeps.of (X := fun _ => False) hV) (fun _ _ => id)
  have n1 := fun V (hV : Below w.heap.size w V) => hearNum1_any (h.later hV) fa fp ns nr info fq fc hnr hvm (hvV V hV) hfree hl (by omega)
  have n2 := fun V (hV : Below w.heap.size w V) => hearNum2_any (h.later hV) fa fp ns nr info fq fc hnr hvm (hvV V hV) hfree hl (by omega)
  have n3 := fun V (hV : Below w.heap.size w V) => hearNum3_any (h.later hV) fa fp ns nr info fq fc hnr hvm (hvV V hV) hfree hl (by omega)
  have n4 := fun V (hV : Below w.heap.size w V) => hearNum4_any (h.later hV) fa fp ns nr info fq fc hnr hvm (hvV V hV) hfree hl (by omega)
  have hdef : hearUp c (⟨fa, fk, fp, ns, (nr : Nat), info⟩ : Fr) s = if fk = 5 then accept c fp 2 s else if fk = 6 then agree c fp s else if fk = 8 then goDown 3 s else if fk = 7 ∨ fk = 9 then callS c (tell 2 s) else if fk = 1 ∨ fk = 2 ∨ fk = 3 ∨ fk = 4 then hearNum c (⟨fa, fk, fp, ns, (nr : Nat), info⟩ : Fr) s else s := rfl
  unfold frV at k5 k6 n1 n2 n3 n4 ⊢
  simp only at k5 k6 n1 n2 n3 n4 ⊢
  have K5 := hide k5
  have K6 := hide k6
  have K7 := hide k7
  have K8 := hide k8
  have N1 := hide n1
  have N2 := hide n2
  have N3 := hide n3
  have N4 := hide n4
  have HD := hide hdef
  have HB := hide hbw
  have HI := hide h
  clear h k5 k6 k7 k8 n1 n2 n3 n4 hdef hbw hvV hv hfree
  by_cases h5 : fk = 5
  · have HD2 := hide ((unhide HD).trans (if_pos h5))
    clear HD
    subst h5
    go_enter Tryd.func64, Tryd.ntmps64
    go_wp2_with fail
    refine (unhide K5 _ (unhide HB)).mono ?_
    rintro e w1 ⟨rfl, own2, h3, u3⟩
    have HR := hide (And.intro h3 (Upd.t (T := (Value.slice fq info.length fc).ownBlock) (Upd.of (w := w) (unhide HB) u3)))
    clear h3 u3 K5
    go_wp2
    first | go_end0 | refine bodyPost_ret (results_none rfl _ _ _) rfl ?_
    rw [unhide HD2]
    exact ⟨rfl, _, (unhide HR).1, (unhide HR).2⟩
  have HD5 := hide ((unhide HD).trans (if_neg h5))
  clear HD
  by_cases h6 : fk = 6
  · have HD2 := hide ((unhide HD5).trans (if_pos h6))
    clear HD5
    subst h6
    go_enter Tryd.func64, Tryd.ntmps64
    go_wp2_with fail
    refine (unhide K6 _ (unhide HB)).mono ?_
    rintro e w1 ⟨rfl, own2, h3, u3⟩
    have HR := hide (And.intro h3 (Upd.t (T := (Value.slice fq info.length fc).ownBlock) (Upd.of (w := w) (unhide HB) u3)))
    clear h3 u3 K6
    go_wp2
    first | go_end0 | refine bodyPost_ret (results_none rfl _ _ _) rfl ?_
    rw [unhide HD2]
    exact ⟨rfl, _, (unhide HR).1, (unhide HR).2⟩
  have HD6 := hide ((unhide HD5).trans (if_neg h6))
  clear HD5
  by_cases h8 : fk = 8
  · have HD2 := hide ((unhide HD6).trans (if_pos h8))
    clear HD6
    subst h8
    go_enter Tryd.func64, Tryd.ntmps64
    go_wp2_with fail
    refine (unhide K8 _ (unhide HB)).mono ?_
    rintro e w1 ⟨rfl, own2, h3, u3⟩
    have HR := hide (And.intro h3 (Upd.t (T := (Value.slice fq info.length fc).ownBlock) (Upd.of (w := w) (unhide HB) u3)))
    clear h3 u3 K8
    go_wp2
    first | go_end0 | refine bodyPost_ret (results_none rfl _ _ _) rfl ?_
    rw [unhide HD2]
    exact ⟨rfl, _, (unhide HR).1, (unhide HR).2⟩
  have HD8 := hide ((unhide HD6).trans (if_neg h8))
  clear HD6
  by_cases h7 : fk = 7 ∨ fk = 9
  · have HD2 := hide ((unhide HD8).trans (if_pos h7))
    clear HD8
    rcases h7 with rfl | rfl
    all_goals
      go_enter Tryd.func64, Tryd.ntmps64
      go_wp2_with fail
      refine (unhide K7 _ (unhide HB)).mono ?_
      rintro e w1 ⟨rfl, own1, ⟨ch1, q1, cm1, o1, ev1, qe1, ce1, oe1, h1⟩, u1⟩
      have K9 := hide (call_any h1 (by show s.out.length ≤ _; omega))
      have U1 := hide (Upd.of (w := w) (unhide HB) u1)
      clear K7 h1 u1
      go_wp2_with fail
      refine (unhide K9).mono ?_
      rintro e w2 ⟨rfl, own2, h3, u3⟩
      have HR := hide (And.intro h3 (Upd.t (T := (Value.slice fq info.length fc).ownBlock) ((unhide U1).trans u3)))
      clear h3 u3 K9 U1
      go_wp2
      first | go_end0 | refine bodyPost_ret (results_none rfl _ _ _) rfl ?_
      rw [unhide HD2]
      exact ⟨rfl, _, (unhide HR).1, (unhide HR).2⟩
  have HD7 := hide ((unhide HD8).trans (if_neg h7))
  clear HD8
  by_cases h1 : fk = 1 ∨ fk = 2 ∨ fk = 3 ∨ fk = 4
  · have HD2 := hide ((unhide HD7).trans (if_pos h1))
    clear HD7
    rcases h1 with rfl | rfl | rfl | rfl
    · go_enter Tryd.func64, Tryd.ntmps64
      go_wp2_with fail
      refine (unhide N1 _ (unhide HB)).mono ?_
      rintro e w1 ⟨rfl, own2, h3, u3⟩
      have HR := hide (And.intro h3 (UpdT.of (w := w) (unhide HB) u3))
      clear h3 u3 N1
      go_wp2
      first | go_end0 | refine bodyPost_ret (results_none rfl _ _ _) rfl ?_
      rw [unhide HD2]
      exact ⟨rfl, _, (unhide HR).1, (unhide HR).2⟩
    · go_enter Tryd.func64, Tryd.ntmps64
      go_wp2_with fail
      refine (unhide N2 _ (unhide HB)).mono ?_
      rintro e w1 ⟨rfl, own2, h3, u3⟩
      have HR := hide (And.intro h3 (UpdT.of (w := w) (unhide HB) u3))
      clear h3 u3 N2
      go_wp2
      first | go_end0 | refine bodyPost_ret (results_none rfl _ _ _) rfl ?_
      rw [unhide HD2]
      exact ⟨rfl, _, (unhide HR).1, (unhide HR).2⟩
    · go_enter Tryd.func64, Tryd.ntmps64
      go_wp2_with fail
      refine (unhide N3 _ (unhide HB)).mono ?_
      rintro e w1 ⟨rfl, own2, h3, u3⟩
      have HR := hide (And.intro h3 (UpdT.of (w := w) (unhide HB) u3))
      clear h3 u3 N3
      go_wp2
      first | go_end0 | refine bodyPost_ret (results_none rfl _ _ _) rfl ?_
      rw [unhide HD2]
      exact ⟨rfl, _, (unhide HR).1, (unhide HR).2⟩
    · go_enter Tryd.func64, Tryd.ntmps64
      go_wp2_with fail
      refine (unhide N4 _ (unhide HB)).mono ?_
      rintro e w1 ⟨rfl, own2, h3, u3⟩
      have HR := hide (And.intro h3 (UpdT.of (w := w) (unhide HB) u3))
      clear h3 u3 N4
      go_wp2
      first | go_end0 | refine bodyPost_ret (results_none rfl _ _ _) rfl ?_
      rw [unhide HD2]
      exact ⟨rfl, _, (unhide HR).1, (unhide HR).2⟩
  have HD2 := hide ((unhide HD7).trans (if_neg h1))
  have n1 : (fk == 1) = false := by simp; omega
  have n2 : (fk == 2) = false := by simp; omega
  have n3 : (fk == 3) = false := by simp; omega
  have n4 : (fk == 4) = false := by simp; omega
  have n5 : (fk == 5) = false := by simp; omega
  have n6 : (fk == 6) = false := by simp; omega
  have n7 : (fk == 7) = false := by simp; omega
  have n8 : (fk == 8) = false := by simp; omega
  have n9 : (fk == 9) = false := by simp; omega
  clear HD7 h1 h5 h6 h7 h8 K5 K6 K7 K8 N1 N2 N3 N4
  go_enter Tryd.func64, Tryd.ntmps64
  go_wp2
  first | go_end0 | refine bodyPost_ret (results_none rfl _ _ _) rfl ?_
  rw [unhide HD2]
  exact Did.t ((unhide HI).idleB (unhide HB))

set_option maxHeartbeats 4000000 in
set_option maxRecDepth 100000 in
theorem hearBroken_any (h : SAt w own i b c s cl ch q cm o ev qe ce oe) (fa fk : Int) (fp : Bool) (ns : Int) (nr : Nat) (info : Msg) (fq : Option Addr) (fc : Nat) (hnr : nr < c.m) (hvm : ahead c s s.vm ≤ s.queue.length) (hv : w.ownsRow 0 5 1 (.slice fq info.length fc) info.length (Lib.byteCells info)) (hfree : ∀ k, (Value.slice fq info.length fc).ownBlock = some k → own k = 0 ∧ k ≠ 0) (hl : s.out.length + 18 ≤ 2199023255552) (hl2 : s.events.length + 2 ≤ 2199023255552) :
    Calls Tryd.prog 66 #[.pointer (some ⟨b, 0, none⟩), frV (⟨fa, fk, fp, ns, (nr : Nat), info⟩ : Fr) fq fc] w fun e w' => DidT (Value.slice fq info.length fc).ownBlock i b c (hearBroken c (⟨fa, fk, fp, ns, (nr : Nat), info⟩ : Fr) s) cl own w e w' := by
  have hlt := h.lt
  have hbw : Below w.heap.size w (w.alloc (.cells #[.int .i64 fa, .int .i64 fk, .bool fp, .int .i64 ns, .int .i64 (nr : Nat), .slice fq info.length fc] 24)) := (Below.refl _ w).alloc (Nat.le_refl _) _
  have hvV := fun V (hV : Below w.heap.size w V) => ownsRow_keepsB hv (Keeps.of (X := fun _ => False) hV) (fun _ _ => id)
  have k1 := fun V (hV : Below w.heap.size w V) => hearUp_any (h.later hV) fa fk fp ns nr info fq fc hnr hvm (hvV V hV) hfree hl hl2
  have k2 := fun V (hV : Below w.heap.size w V) => isCommand_any (h.later hV) (⟨fa, fk, fp, ns, (nr : Nat), info⟩ : Fr) fq fc
  have k3 := fun V (hV : Below w.heap.size w V) => report_any (h.later hV) fp (by omega)
  have hdef : hearBroken c (⟨fa, fk, fp, ns, (nr : Nat), info⟩ : Fr) s = if fk = 5 ∨ fk = 6 ∨ fk = 8 then hearUp c (⟨fa, fk, fp, ns, (nr : Nat), info⟩ : Fr) s else if fk = 1 ∨ fk = 2 ∨ fk = 3 ∨ fk = 4 then (if isCmd c (⟨fa, fk, fp, ns, (nr : Nat), info⟩ : Fr) then report c fp s else s) else s := rfl
  unfold frV at k1 k2 ⊢
  simp only at k1 k2 ⊢
  generalize hx : isCmd c (⟨fa, fk, fp, ns, (nr : Nat), info⟩ : Fr) = x at k2 hdef
  have K1 := hide k1
  have K2 := hide k2
  have K3 := hide k3
  have HD := hide hdef
  have HB := hide hbw
  have HI := hide h
  clear h k1 k2 k3 hdef hbw hvV hv hfree hx
  by_cases h5 : fk = 5 ∨ fk = 6 ∨ fk = 8
  · have HD2 := hide ((unhide HD).trans (if_pos h5))
    clear HD
    rcases h5 with rfl | rfl | rfl
    all_goals
      go_enter Tryd.func66, Tryd.ntmps66
      go_wp2_with fail
      refine (unhide K1 _ (unhide HB)).mono ?_
      rintro e w1 ⟨rfl, own2, h3, u3⟩
      have HR := hide (And.intro h3 (UpdT.of (w := w) (unhide HB) u3))
      clear h3 u3 K1
      go_wp2
      first | go_end0 | refine bodyPost_ret (results_none rfl _ _ _) rfl ?_
      rw [unhide HD2]
      exact ⟨rfl, _, (unhide HR).1, (unhide HR).2⟩
  have HD5 := hide ((unhide HD).trans (if_neg h5))
  clear HD
  by_cases h1 : fk = 1 ∨ fk = 2 ∨ fk = 3 ∨ fk = 4
  · have HD6 := hide ((unhide HD5).trans (if_pos h1))
    clear HD5 h5
    cases x with
    | true =>
      have HD2 := hide ((unhide HD6).trans (if_pos rfl))
      clear HD6
      rcases h1 with rfl | rfl | rfl | rfl
      all_goals
        go_enter Tryd.func66, Tryd.ntmps66
        go_wp2_with fail
        refine (unhide K2 _ (unhide HB)).mono ?_
        rintro e w1 ⟨rfl, hb⟩
        obtain ⟨y0, y1, y2, y3, y4, y5⟩ := frBox (boxB hb)
        have HB1 := hide ((unhide HB).trans (hb.mono (by simp)))
        clear hb K2
        go_wp2_with fail
        refine (unhide K3 _ (unhide HB1)).mono ?_
        rintro e w1 ⟨rfl, own2, h3, u3⟩
        have HR := hide (And.intro h3 (Upd.t (T := (Value.slice fq info.length fc).ownBlock) (Upd.of (w := w) (unhide HB1) u3)))
        clear h3 u3 K3
        go_wp2
        first | go_end0 | refine bodyPost_ret (results_none rfl _ _ _) rfl ?_
        rw [unhide HD2]
        exact ⟨rfl, _, (unhide HR).1, (unhide HR).2⟩
    | false =>
      have HD2 := hide ((unhide HD6).trans (if_neg (by simp)))
      clear HD6
      rcases h1 with rfl | rfl | rfl | rfl
      all_goals
        go_enter Tryd.func66, Tryd.ntmps66
        go_wp2_with fail
        refine (unhide K2 _ (unhide HB)).mono ?_
        rintro e w1 ⟨rfl, hb⟩
        have HB1 := hide ((unhide HB).trans (hb.mono (by simp)))
        clear hb K2
        go_wp2
        first | go_end0 | refine bodyPost_ret (results_none rfl _ _ _) rfl ?_
        rw [unhide HD2]
        exact Did.t ((unhide HI).idleB (unhide HB1))
  have HD2 := hide ((unhide HD5).trans (if_neg h1))
  have n1 : (fk == 1) = false := by simp; omega
  have n2 : (fk == 2) = false := by simp; omega
  have n3 : (fk == 3) = false := by simp; omega
  have n4 : (fk == 4) = false := by simp; omega
  have n5 : (fk == 5) = false := by simp; omega
  have n6 : (fk == 6) = false := by simp; omega
  have n8 : (fk == 8) = false := by simp; omega
  clear HD5 h1 h5 K1 K2 K3
  go_enter Tryd.func66, Tryd.ntmps66
  go_wp2
  first | go_end0 | refine bodyPost_ret (results_none rfl _ _ _) rfl ?_
  rw [unhide HD2]
  exact Did.t ((unhide HI).idleB (unhide HB))

set_option maxHeartbeats 4000000 in
set_option maxRecDepth 100000 in
theorem hearFrame_any (h : SAt w own i b c s cl ch q cm o ev qe ce oe) (fa fk : Int) (fp : Bool) (ns : Int) (nr : Nat) (info : Msg) (fq : Option Addr) (fc : Nat) (hnr : nr < c.m) (hvm : ahead c s s.vm ≤ s.queue.length) (hv : w.ownsRow 0 5 1 (.slice fq info.length fc) info.length (Lib.byteCells info)) (hfree : ∀ k, (Value.slice fq info.length fc).ownBlock = some k → own k = 0 ∧ k ≠ 0) (hl : s.out.length + 18 ≤ 2199023255552) (hl2 : s.events.length + 2 ≤ 2199023255552) :
    Calls Tryd.prog 43 #[.pointer (some ⟨b, 0, none⟩), frV (⟨fa, fk, fp, ns, (nr : Nat), info⟩ : Fr) fq fc] w fun e w' => DidT (Value.slice fq info.length fc).ownBlock i b c (hearFrame c (⟨fa, fk, fp, ns, (nr : Nat), info⟩ : Fr) s) cl own w e w' := by
  have hlt := h.lt
  have c7 := h.c_state
  have hs4 := h.sok.state
  have hbw : Below w.heap.size w (w.alloc (.cells #[.int .i64 fa, .int .i64 fk, .bool fp, .int .i64 ns, .int .i64 (nr : Nat), .slice fq info.length fc] 24)) := (Below.refl _ w).alloc (Nat.le_refl _) _
  have hvV := fun V (hV : Below w.heap.size w V) => ownsRow_keepsB hv (Keeps.of (X := fun _ => False) hV) (fun _ _ => id)
  have k0 := fun V (hV : Below w.heap.size w V) => hearDown_any (h.later hV) (⟨fa, fk, fp, ns, (nr : Nat), info⟩ : Fr) fq fc (by omega) (by omega)
  have k1 := fun V (hV : Below w.heap.size w V) => hearCalling_any (h.later hV) (⟨fa, fk, fp, ns, (nr : Nat), info⟩ : Fr) fq fc (by omega) (by omega)
  have k2 := fun V (hV : Below w.heap.size w V) => hearUp_any (h.later hV) fa fk fp ns nr info fq fc hnr hvm (hvV V hV) hfree hl hl2
  have k3 := fun V (hV : Below w.heap.size w V) => hearLeaving_any (h.later hV) (⟨fa, fk, fp, ns, (nr : Nat), info⟩ : Fr) fq fc (by omega) (by omega)
  have k4 := fun V (hV : Below w.heap.size w V) => hearBroken_any (h.later hV) fa fk fp ns nr info fq fc hnr hvm (hvV V hV) hfree hl hl2
  have hdef : hearFrame c (⟨fa, fk, fp, ns, (nr : Nat), info⟩ : Fr) s = if s.state = 0 then hearDown c (⟨fa, fk, fp, ns, (nr : Nat), info⟩ : Fr) s else if s.state = 1 then hearCalling c (⟨fa, fk, fp, ns, (nr : Nat), info⟩ : Fr) s else if s.state = 2 then hearUp c (⟨fa, fk, fp, ns, (nr : Nat), info⟩ : Fr) s else if s.state = 3 then hearLeaving c (⟨fa, fk, fp, ns, (nr : Nat), info⟩ : Fr) s else if s.state = 4 then hearBroken c (⟨fa, fk, fp, ns, (nr : Nat), info⟩ : Fr) s else s := rfl
  unfold frV at k0 k1 k2 k3 k4 ⊢
  simp only at k0 k1 k2 k3 k4 ⊢
  have K0 := hide k0
  have K1 := hide k1
  have K2 := hide k2
  have K3 := hide k3
  have K4 := hide k4
  have HB := hide hbw
  clear h k0 k1 k2 k3 k4 hbw hvV hv hfree
  have hst : s.state = 0 ∨ s.state = 1 ∨ s.state = 2 ∨ s.state = 3 ∨ s.state = 4 := by omega
  rcases hst with e | e | e | e | e
  · have HD2 : Hid (hearFrame c (⟨fa, fk, fp, ns, (nr : Nat), info⟩ : Fr) s = hearDown c (⟨fa, fk, fp, ns, (nr : Nat), info⟩ : Fr) s) := hide (by rw [hdef, if_pos e])
    rw [e] at c7
    clear e hdef
    go_enter Tryd.func43, Tryd.ntmps43
    go_wp2_with fail
    refine (unhide K0 _ (unhide HB)).mono ?_
    rintro e w1 ⟨rfl, own2, h3, u3⟩
    have HR := hide (And.intro h3 (Upd.t (T := (Value.slice fq info.length fc).ownBlock) (Upd.of (w := w) (unhide HB) u3)))
    clear h3 u3 K0
    go_wp2
    first | go_end0 | refine bodyPost_ret (results_none rfl _ _ _) rfl ?_
    rw [unhide HD2]
    exact ⟨rfl, _, (unhide HR).1, (unhide HR).2⟩
  · have HD2 : Hid (hearFrame c (⟨fa, fk, fp, ns, (nr : Nat), info⟩ : Fr) s = hearCalling c (⟨fa, fk, fp, ns, (nr : Nat), info⟩ : Fr) s) := hide (by rw [hdef, if_neg (by omega), if_pos e])
    rw [e] at c7
    clear e hdef
    go_enter Tryd.func43, Tryd.ntmps43
    go_wp2_with fail
    refine (unhide K1 _ (unhide HB)).mono ?_
    rintro e w1 ⟨rfl, own2, h3, u3⟩
    have HR := hide (And.intro h3 (Upd.t (T := (Value.slice fq info.length fc).ownBlock) (Upd.of (w := w) (unhide HB) u3)))
    clear h3 u3 K1
    go_wp2
    first | go_end0 | refine bodyPost_ret (results_none rfl _ _ _) rfl ?_
    rw [unhide HD2]
    exact ⟨rfl, _, (unhide HR).1, (unhide HR).2⟩
  · have HD2 : Hid (hearFrame c (⟨fa, fk, fp, ns, (nr : Nat), info⟩ : Fr) s = hearUp c (⟨fa, fk, fp, ns, (nr : Nat), info⟩ : Fr) s) := hide (by rw [hdef, if_neg (by omega), if_neg (by omega), if_pos e])
    rw [e] at c7
    clear e hdef
    go_enter Tryd.func43, Tryd.ntmps43
    go_wp2_with fail
    refine (unhide K2 _ (unhide HB)).mono ?_
    rintro e w1 ⟨rfl, own2, h3, u3⟩
    have HR := hide (And.intro h3 (UpdT.of (w := w) (unhide HB) u3))
    clear h3 u3 K2
    go_wp2
    first | go_end0 | refine bodyPost_ret (results_none rfl _ _ _) rfl ?_
    rw [unhide HD2]
    exact ⟨rfl, _, (unhide HR).1, (unhide HR).2⟩
  · have HD2 : Hid (hearFrame c (⟨fa, fk, fp, ns, (nr : Nat), info⟩ : Fr) s = hearLeaving c (⟨fa, fk, fp, ns, (nr : Nat), info⟩ : Fr) s) := hide (by rw [hdef, if_neg (by omega), if_neg (by omega), if_neg (by omega), if_pos e])
    rw [e] at c7
    clear e hdef
    go_enter Tryd.func43, Tryd.ntmps43
    go_wp2_with fail
    refine (unhide K3 _ (unhide HB)).mono ?_
    rintro e w1 ⟨rfl, own2, h3, u3⟩
    have HR := hide (And.intro h3 (Upd.t (T := (Value.slice fq info.length fc).ownBlock) (Upd.of (w := w) (unhide HB) u3)))
    clear h3 u3 K3
    go_wp2
    first | go_end0 | refine bodyPost_ret (results_none rfl _ _ _) rfl ?_
    rw [unhide HD2]
    exact ⟨rfl, _, (unhide HR).1, (unhide HR).2⟩
  · have HD2 : Hid (hearFrame c (⟨fa, fk, fp, ns, (nr : Nat), info⟩ : Fr) s = hearBroken c (⟨fa, fk, fp, ns, (nr : Nat), info⟩ : Fr) s) := hide (by rw [hdef, if_neg (by omega), if_neg (by omega), if_neg (by omega), if_neg (by omega), if_pos e])
    rw [e] at c7
    clear e hdef
    go_enter Tryd.func43, Tryd.ntmps43
    go_wp2_with fail
    refine (unhide K4 _ (unhide HB)).mono ?_
    rintro e w1 ⟨rfl, own2, h3, u3⟩
    have HR := hide (And.intro h3 (UpdT.of (w := w) (unhide HB) u3))
    clear h3 u3 K4
    go_wp2
    first | go_end0 | refine bodyPost_ret (results_none rfl _ _ _) rfl ?_
    rw [unhide HD2]
    exact ⟨rfl, _, (unhide HR).1, (unhide HR).2⟩
end
end Go.Proofs.YtkalonhalhdlaaaDoor
