import Derived.Test.YtkalonhalhdlaaaGreatDoorG05
import Derived.Test.YtkalonhalhdlaaaGreatDoorG01
import Derived.Test.YtkalonhalhdlaaaGreatDoorG04
/-
  What one call of hearMessage does.
-/
namespace Go.Proofs.YtkalonhalhdlaaaGreatDoor
open Go.RowKit
section
variable {w W : World} {own : Nat → Nat} {i b : Nat} {c : Cfg} {s : St} {cl : Bool} {ch : Nat} {q cm o ev : Value} {qe ce oe : List Value}
set_option maxHeartbeats 4000000 in
set_option maxRecDepth 100000 in
theorem hearMessage_any (h : SAt w own i b c s cl ch q cm o ev qe ce oe) (fa fk : Int) (fp : Bool) (ns nr : Int) (info : Msg) (fq : Option Addr) (fc : Nat) (hv : w.ownsRow 0 5 1 (.slice fq info.length fc) info.length (Lib.byteCells info)) (hfree : ∀ k, (Value.slice fq info.length fc).ownBlock = some k → own k = 0 ∧ k ≠ 0) (hl : s.out.length ≤ 2199023255552) :
    Calls Tryz.prog 169 #[.pointer (some ⟨b, 0, none⟩), frV (⟨fa, fk, fp, ns, nr, info⟩ : Fr) fq fc] w fun e w' => DidT (Value.slice fq info.length fc).ownBlock i b c (hearMsg c (⟨fa, fk, fp, ns, nr, info⟩ : Fr) s) cl own w e w' := by
  have hlt := h.lt
  have hbw : Below w.heap.size w (w.alloc (.cells #[.int .i64 fa, .int .i64 fk, .bool fp, .int .i64 ns, .int .i64 nr, .slice fq info.length fc] 30)) := (Below.refl _ w).alloc (Nat.le_refl _) _
  have h1 := h.later hbw
  have k1 := isHeldUp_any h1
  have k2 := fun n p => answer_any (h1.drewN n) p hl
  have hdef : hearMsg c (⟨fa, fk, fp, ns, nr, info⟩ : Fr) s = if heldUp c s then answer c fp s else if ns = s.vr then answer c fp { s with vr := follow c s.vr, came := s.came ++ [info], rejected := false } else if s.rejected = false then putR c ⟨0, 4, fp, 0, s.vr, []⟩ { s with rejected := true } else if fp then answer c true s else s := rfl
  have hhu : heldUp c s = (s.busy || decide (c.room ≤ s.came.length)) := rfl
  have c10 := h1.c_vr
  have c17 := h1.c_rejected
  have fz := h1.fz
  obtain ⟨y0, y1, y2, y3, y4, y5⟩ := frBox (alloc1_a w (.cells #[.int .i64 fa, .int .i64 fk, .bool fp, .int .i64 ns, .int .i64 nr, .slice fq info.length fc] 30))
  unfold frV
  simp only
  generalize heldUp c s = x at k1 hdef hhu
  have K2 := hide k2
  have HD := hide hdef
  have H1 := hide h1
  have H := hide h
  have HHU := hide hhu
  have HV := hide hv
  have HF := hide hfree
  clear h h1 k2 hdef hhu hv hfree
  cases x with
  | true =>
    have HD2 := hide ((unhide HD).trans (if_pos rfl))
    clear HD
    go_enter Tryz.func169, Tryz.ntmps169
    go_wp2_with fail
    refine k1.mono ?_
    rintro e w0 ⟨rfl, n0, rfl⟩
    clear k1
    go_wp2_with fail
    refine (unhide K2 _ fp).mono ?_
    rintro e w1 ⟨rfl, own2, h3, u3⟩
    have HR := hide (And.intro h3 (Upd.t (T := (Value.slice fq info.length fc).ownBlock) (Upd.of (w := w) (below_drewN ((Below.refl _ w).alloc (Nat.le_refl _) _) _) u3)))
    clear h3 u3 K2
    go_wp2
    first | go_end0 | refine bodyPost_ret (results_none rfl _ _ _) rfl ?_
    rw [unhide HD2]
    exact ⟨rfl, _, (unhide HR).1, (unhide HR).2⟩
  | false =>
    have HD1 := hide ((unhide HD).trans (if_neg (by simp)))
    clear HD
    by_cases hns : ns = s.vr
    · have HD2 := hide ((unhide HD1).trans (if_pos hns))
      clear HD1
      have tns : (ns == (s.vr : Int)) = true := by simp [hns]
      clear hns
      go_enter Tryz.func169, Tryz.ntmps169
      go_wp2_with fail
      refine k1.mono ?_
      rintro e w0 ⟨rfl, n0, rfl⟩
      clear k1
      go_wp2_with fail
      go_quiet (fail)
      go_wp2_with fail
      have hV := (unhide H1).drewN (n0 + nq)
      have hVb : Below w.heap.size w ((w.alloc (.cells #[.int .i64 fa, .int .i64 fk, .bool fp, .int .i64 ns, .int .i64 nr, .slice fq info.length fc] 30)).drewN (n0 + nq)) := below_drewN hbw _
      have hvV := ownsRow_keepsB (unhide HV) (Keeps.of (X := fun _ => False) hVb) (fun _ _ => id)
      have hbox : ((w.alloc (.cells #[.int .i64 fa, .int .i64 fk, .bool fp, .int .i64 ns, .int .i64 nr, .slice fq info.length fc] 30)).drewN (n0 + nq)).heap[w.heap.size]? = some (.cells #[.int .i64 fa, .int .i64 fk, .bool fp, .int .i64 ns, .int .i64 nr, .slice fq info.length fc] 30) := alloc1_a w _
      clear y0 y1 y2 y3 y4 y5 c10 c17 fz hbw H1 K2
      generalize (w.alloc (.cells #[.int .i64 fa, .int .i64 fk, .bool fp, .int .i64 ns, .int .i64 nr, .slice fq info.length fc] 30)).drewN (n0 + nq) = V at *
      have k3 := following_any hV s.vr hV.sok.vr
      refine k3.mono ?_
      rintro e w3 ⟨rfl, n3, rfl⟩
      have hV3 := hV.drewN n3
      have c10 := hV3.c_vr
      have fz3 := hV3.fz
      have hfl := follow_lt hV.cok s.vr
      have h4 := hV3.wrote (s' := { s with vr := follow c s.vr }) ((Keeps.refl _ _).setB 10 (.int .i64 (follow c s.vr : Nat))) (hV3.hd.vr _) rfl rfl rfl rfl ⟨hV3.sok.state, hV3.sok.vs, hV3.sok.va, hfl, hV3.sok.vm, hV3.sok.q20, hV3.sok.q32, hV3.sok.timer, hV3.sok.tries, hV3.sok.came⟩
      have u4 : Upd i own own w _ := Upd.of hVb (Upd.of (below_drewN (Below.refl _ V) n3) (hV3.upd ((Keeps.refl _ _).setB 10 (.int .i64 (follow c s.vr : Nat)))))
      have hbox4 : ((V.drewN n3).setCell ⟨b, 10, none⟩ (.int .i64 (follow c s.vr : Nat))).heap[w.heap.size]? = some (.cells #[.int .i64 fa, .int .i64 fk, .bool fp, .int .i64 ns, .int .i64 nr, .slice fq info.length fc] 30) := by rw [Below.heap_setCell _ _ _ _ (by show w.heap.size ≠ b; omega)]; exact hbox
      have hv4 : ((V.drewN n3).setCell ⟨b, 10, none⟩ (.int .i64 (follow c s.vr : Nat))).ownsRow 0 5 1 (.slice fq info.length fc) info.length (Lib.byteCells info) := ownsRow_keepsB hvV (((Keeps.refl _ V).drewN n3).setB 10 _) (fun k hk e => by have := ((unhide HF) k hk).1; rw [e, hV.ownb] at this; exact tg_pos _ _ this)
      obtain ⟨cp, ccap, hcm, hcc1, hcc2⟩ := h4.lcm.slice
      subst hcm
      have c19 := h4.c_cm
      have fz4 := h4.fz
      obtain ⟨z0, z1, z2, z3, z4, z5⟩ := frBox hbox4
      obtain ⟨i1, hi1, hy0, hy1, hy2⟩ := info_parts infoBytesS
      have hcl : s.came.length + 1 ≤ c.room := by have := unhide HHU; simp at this; omega
      have hr16 := hV.cok.room16
      have HO := hide (World.ownsRow.alloc (World.ownsRow.drew h4.lcm.row) (.cells #[.slice fq info.length fc] 28))
      have HM1 : Hid (s.came.length + 1 ≤ maxLen) := hide (by unfold maxLen; omega)
      have HM2 : Hid ((s.came.length + 1) * 24 ≤ 140737488355328) := hide (by omega)
      have hlt4 := h4.lt
      have hltx4 : w.heap.size < ((V.drewN n3).setCell ⟨b, 10, none⟩ (.int .i64 (follow c s.vr : Nat))).heap.size := (Array.getElem?_eq_some_iff.1 hbox4).1
      have H4 := hide h4
      have HV4 := hide hv4
      have U4 := hide u4
      have hn0 := (unhide H).new0 w.heap.size (Nat.le_refl _)
      have HBX := hide hbox4
      clear k3 hV3 h4 hv4 u4 hbox hbox4 hvV H HV HHU hVb hV hcc1 hcc2 hr16
      go_wp2_with fail
      generalize ((V.drewN n3).setCell ⟨b, 10, none⟩ (.int .i64 (follow c s.vr : Nat))) = V4 at *
      go_region_law ((refine step_append_own_at _ (by rfl) _ _ 38 (by rfl) 0 28 i1 _ 1 24 Tryz.underlying38 hi1 hy0 hy1 hy2 rfl (by decide) _ _ _ (by rfl) (unhide HO) ⟨V4.heap.size, 0, none⟩ 1 1 [.slice fq info.length fc] (by rfl) (by rfl) (cell_one_new _ _ _) (one_slice _ _ _) (unhide HM1) (unhide HM2) (Nat.zero_le _) ?_; intro cm5 w5 hrow5 hg5 hob5; obtain ⟨p5, cap5, hs5⟩ := row_slice hrow5; subst hs5; have hbl5 := ((Below.refl V4.heap.size V4).drew).alloc (o := .cells #[.slice fq info.length fc] 28) (Nat.le_refl _); have hh5 := (unhide H4).headAfterW hbl5 hg5 (fun k hk e => tg_ne (i := i) (j := i) (p := 2) (q := 0) (by omega) (by omega) (.inr (by omega)) (((unhide H4).lcm.rown k hk).symm.trans e)); have fz5 : ∀ j, w5.frozen? ⟨b, j, none⟩ = false := (fun j => Lib.frozen_of_heap hh5 j); have e19 : w5.cell? ⟨b, 19, none⟩ = some (.slice cp s.came.length ccap) := (by rw [Lib.cell_of_heap hh5]; rfl); have e17 : w5.cell? ⟨b, 17, none⟩ = some (.bool s.rejected) := (by rw [Lib.cell_of_heap hh5]; rfl)))
      all_goals
        have hS := (unhide H4).cameIn (unhide HV4) (unhide HF) hbl5 hg5 hrow5 (by rcases hob5 with e | e; exact .inl e; exact .inr ⟨_, e, Nat.le_refl _⟩) hcl
        have hbox5 := free_kept hbl5 hg5 (fun k hk => (unhide H4).lcm.rown k hk) (tg_pos _ _) hn0 (unhide HBX)
        obtain ⟨v0, v1, v2, v3, v4, v5⟩ := frBox hbox5
        have hne : ¬ w.heap.size = b := by omega
        have hne2 : ¬ b = w.heap.size := by omega
        have h6 := hS.1
        have h7 := h6.wrote (s' := { s with vr := follow c s.vr, came := s.came ++ [info], rejected := false }) ((Keeps.refl _ _).setB 17 (.bool false)) (h6.hd.rejected false) rfl rfl rfl rfl ⟨h6.sok.state, h6.sok.vs, h6.sok.va, h6.sok.vr, h6.sok.vm, h6.sok.q20, h6.sok.q32, h6.sok.timer, h6.sok.tries, h6.sok.came⟩
        have u7 := ((unhide U4).transT hS.2).trans (h6.upd ((Keeps.refl _ _).setB 17 (.bool false)))
        have K7 := hide (answer_any h7 fp hl)
        have U7 := hide u7
        clear hS h6 h7 u7 hbox5 hh5 hg5 hrow5 hob5 hbl5 H4 HV4 U4 HO HBX
        go_wp2_with fail
        refine (unhide K7).mono ?_
        rintro e w8 ⟨rfl, own8, h8, u8⟩
        have HR := hide (And.intro h8 ((unhide U7).trans u8))
        clear K7 U7 h8 u8
        go_wp2
        first | go_end0 | refine bodyPost_ret (results_none rfl _ _ _) rfl ?_
        rw [unhide HD2]
        exact ⟨rfl, _, (unhide HR).1, (unhide HR).2⟩
    · have HD3 := hide ((unhide HD1).trans (if_neg hns))
      have tns : (ns == (s.vr : Int)) = false := by simp [hns]
      clear HD1 hns
      by_cases hr : s.rejected = false
      · have HD2 := hide ((unhide HD3).trans (if_pos hr))
        rw [hr] at c17
        clear HD3 hr
        go_enter Tryz.func169, Tryz.ntmps169
        go_wp2_with fail
        refine k1.mono ?_
        rintro e w0 ⟨rfl, n0, rfl⟩
        clear k1
        go_wp2_with fail
        go_quiet (fail)
        have hV := (unhide H1).drewN (n0 + nq)
        have hVb : Below w.heap.size w ((w.alloc (.cells #[.int .i64 fa, .int .i64 fk, .bool fp, .int .i64 ns, .int .i64 nr, .slice fq info.length fc] 30)).drewN (n0 + nq)) := below_drewN hbw _
        have hbox : ((w.alloc (.cells #[.int .i64 fa, .int .i64 fk, .bool fp, .int .i64 ns, .int .i64 nr, .slice fq info.length fc] 30)).drewN (n0 + nq)).heap[w.heap.size]? = some (.cells #[.int .i64 fa, .int .i64 fk, .bool fp, .int .i64 ns, .int .i64 nr, .slice fq info.length fc] 30) := alloc1_a w _
        have hh0 := hV.wrote (s' := { s with rejected := true }) ((Keeps.refl _ _).setB 17 (.bool true)) (hV.hd.rejected true) rfl rfl rfl rfl ⟨hV.sok.state, hV.sok.vs, hV.sok.va, hV.sok.vr, hV.sok.vm, hV.sok.q20, hV.sok.q32, hV.sok.timer, hV.sok.tries, hV.sok.came⟩
        have k5 := fun U hU => sendResponse_any (hh0.later (w' := U) hU) ⟨0, 4, fp, 0, s.vr, []⟩ none 0 (src_nil _) hl
        simp only [frV_bare] at k5
        have K5 := hide k5
        have U5 := hide (Upd.of hVb (hV.upd ((Keeps.refl _ _).setB 17 (.bool true))))
        clear hV hbox hh0 k5 hVb
        have hne : ¬ w.heap.size = b := by omega
        have hne2 : ¬ b = w.heap.size := by omega
        have d2 : (((w.alloc (.cells #[.int .i64 fa, .int .i64 fk, .bool fp, .int .i64 ns, .int .i64 nr, .slice fq info.length fc] 30)).drewN (n0 + nq)).setCell ⟨b, 17, none⟩ (.bool true)).cell? ⟨w.heap.size, 2, none⟩ = some (.bool fp) := by
          rw [World.cell?_of_block (a := ⟨w.heap.size, 2, none⟩) (Below.heap_setCell _ _ _ w.heap.size (by show w.heap.size ≠ b; omega))]
          exact y2
        have d10 : (((w.alloc (.cells #[.int .i64 fa, .int .i64 fk, .bool fp, .int .i64 ns, .int .i64 nr, .slice fq info.length fc] 30)).drewN (n0 + nq)).setCell ⟨b, 17, none⟩ (.bool true)).cell? ⟨b, 10, none⟩ = some (.int .i64 s.vr) := by simp [go_sem, c10]
        have D2 := hide d2
        have D10 := hide d10
        clear d2 d10
        go_wp2_with fail
        have d2 := unhide D2
        have d10 := unhide D10
        clear D2 D10 y0 y1 y2 y3 y4 y5 c10 c17 fz K2 H1
        generalize (((w.alloc (.cells #[.int .i64 fa, .int .i64 fk, .bool fp, .int .i64 ns, .int .i64 nr, .slice fq info.length fc] 30)).drewN (n0 + nq)).setCell ⟨b, 17, none⟩ (.bool true)) = V5 at *
        go_region_with (go_at_call 141; refine (unhide K5 _ ?_).mono ?_; (first | exact Below.refl _ _ | exact (Below.refl _ V5).drew); rintro e w8 ⟨rfl, own8, h8, u8⟩)
        all_goals
          have HR := hide (And.intro h8 (Upd.t (T := (Value.slice fq info.length fc).ownBlock) ((unhide U5).trans (Upd.of (w := V5) (by first | exact Below.refl _ _ | exact (Below.refl _ V5).drew) u8))))
          clear h8 u8 K5 U5
          go_wp2
          first | go_end0 | refine bodyPost_ret (results_none rfl _ _ _) rfl ?_
          rw [unhide HD2]
          exact ⟨rfl, _, (unhide HR).1, (unhide HR).2⟩
      · have HD4 := hide ((unhide HD3).trans (if_neg hr))
        rw [eq_true_of_ne_false hr] at c17
        clear HD3 hr
        cases fp with
        | true =>
          have HD2 := hide ((unhide HD4).trans (if_pos rfl))
          clear HD4
          go_enter Tryz.func169, Tryz.ntmps169
          go_wp2_with fail
          refine k1.mono ?_
          rintro e w0 ⟨rfl, n0, rfl⟩
          clear k1
          go_wp2_with fail
          go_quiet (fail)
          go_wp2_with fail
          refine (unhide K2 _ true).mono ?_
          rintro e w1 ⟨rfl, own2, h3, u3⟩
          have HR := hide (And.intro h3 (Upd.t (T := (Value.slice fq info.length fc).ownBlock) (Upd.of (w := w) (below_drewN ((Below.refl _ w).alloc (Nat.le_refl _) _) _) u3)))
          clear h3 u3 K2
          go_wp2
          first | go_end0 | refine bodyPost_ret (results_none rfl _ _ _) rfl ?_
          rw [unhide HD2]
          exact ⟨rfl, _, (unhide HR).1, (unhide HR).2⟩
        | false =>
          have HD2 := hide ((unhide HD4).trans (if_neg (by simp)))
          clear HD4
          go_enter Tryz.func169, Tryz.ntmps169
          go_wp2_with fail
          refine k1.mono ?_
          rintro e w0 ⟨rfl, n0, rfl⟩
          clear k1
          go_wp2_with fail
          go_quiet (fail)
          go_wp2
          first | go_end0 | refine bodyPost_ret (results_none rfl _ _ _) rfl ?_
          rw [unhide HD2]
          exact Did.t ((unhide H).idleB (below_drewN ((Below.refl _ w).alloc (Nat.le_refl _) _) _))
end
end Go.Proofs.YtkalonhalhdlaaaGreatDoor

/-
  What one call of hearNumbered does.
-/
namespace Go.Proofs.YtkalonhalhdlaaaGreatDoor
open Go.RowKit
section
variable {w W : World} {own : Nat → Nat} {i b : Nat} {c : Cfg} {s : St} {cl : Bool} {ch : Nat} {q cm o ev : Value} {qe ce oe : List Value}
theorem kept_free {own1 : Nat → Nat} {w1 : World} {k : Nat} {x : Obj} (u : Upd i own own1 W w1) (h0 : own k = 0) (hx : W.heap[k]? = some x) : w1.heap[k]? = some x := by
  rw [u.keeps.block k (Array.getElem?_eq_some_iff.1 hx).1 (by rintro ⟨p, _, e⟩; rw [h0] at e; exact tg_pos _ _ e.symm)]
  exact hx
theorem row_free {own1 : Nat → Nat} {w1 : World} {e : TypeId} {v : Value} {n : Nat} {xs : List Value} (u : Upd i own own1 W w1) (hv : W.ownsRow 0 e 1 v n xs) (hf : ∀ k, v.ownBlock = some k → own k = 0 ∧ k ≠ 0) : w1.ownsRow 0 e 1 v n xs ∧ ∀ k, v.ownBlock = some k → own1 k = 0 ∧ k ≠ 0 :=
  ⟨ownsRow_keepsB hv u.keeps (fun k hk => by rintro ⟨p, _, e⟩; rw [(hf k hk).1] at e; exact tg_pos _ _ e.symm), fun k hk => ⟨(u.same k (World.ownsRow.lt hv k hk).2).trans (hf k hk).1, (hf k hk).2⟩⟩
theorem acknowledge_out (nr : Nat) : (acknowledge c nr s).out = s.out := by unfold acknowledge; split <;> rfl
theorem hearMsg_out (f : Fr) : (hearMsg c f s).out.length ≤ s.out.length + 1 := by
  unfold hearMsg
  split
  · simp [answer, putR, put]
  · split
    · simp [answer, putR, put]
    · split
      · simp [putR, put]
      · split
        · simp [answer, putR, put]
        · omega
theorem hearReady_out (f : Fr) : (hearReady c f s).out.length ≤ s.out.length + 1 := by
  unfold hearReady
  dsimp only
  split
  · simp
  · split
    · simp [answer, putR, put]
    · split <;> simp
set_option maxHeartbeats 4000000 in
set_option maxRecDepth 100000 in
theorem hearNum1_any (h : SAt w own i b c s cl ch q cm o ev qe ce oe) (fa : Int) (fp : Bool) (ns : Int) (nr : Nat) (info : Msg) (fq : Option Addr) (fc : Nat) (hnr : nr < c.m) (hvm : ahead c s s.vm ≤ s.queue.length) (hv : w.ownsRow 0 5 1 (.slice fq info.length fc) info.length (Lib.byteCells info)) (hfree : ∀ k, (Value.slice fq info.length fc).ownBlock = some k → own k = 0 ∧ k ≠ 0) (hl : s.out.length + 18 ≤ 2199023255552) (hl2 : s.events.length ≤ 2199023255552) :
    Calls Tryz.prog 163 #[.pointer (some ⟨b, 0, none⟩), frV (⟨fa, 1, fp, ns, (nr : Nat), info⟩ : Fr) fq fc] w fun e w' => DidT (Value.slice fq info.length fc).ownBlock i b c (hearNum c (⟨fa, 1, fp, ns, (nr : Nat), info⟩ : Fr) s) cl own w e w' := by
  have hlt := h.lt
  have hbw : Below w.heap.size w (w.alloc (.cells #[.int .i64 fa, .int .i64 (1 : Int), .bool fp, .int .i64 ns, .int .i64 (nr : Nat), .slice fq info.length fc] 30)) := (Below.refl _ w).alloc (Nat.le_refl _) _
  have h1 := h.later hbw
  have hn0 := h.new0 w.heap.size (Nat.le_refl _)
  have k1 := isGood_any h1 nr hnr
  have hdef : hearNum c (⟨fa, 1, fp, ns, (nr : Nat), info⟩ : Fr) s = if isGood c s nr = false then fallApart c (⟨fa, 1, fp, ns, (nr : Nat), info⟩ : Fr) s else pump c (hearMsg c (⟨fa, 1, fp, ns, (nr : Nat), info⟩ : Fr) (acknowledge c nr s)) := rfl
  have kf := fun n => fallApart_any (h1.drewN n) (⟨fa, 1, fp, ns, (nr : Nat), info⟩ : Fr) fq fc (by omega) hl2
  have ka := fun (hg : isGood c s nr = true) n => acknowledge_any (h1.drewN n) nr hnr (Nat.le_trans (by simpa [isGood] using hg) hvm)
  have hv1 := ownsRow_keepsB hv (Keeps.of (X := fun _ => False) hbw) (fun _ _ => id)
  unfold frV at kf ⊢
  simp only at kf ⊢
  obtain ⟨y0, y1, y2, y3, y4, y5⟩ := frBox (alloc1_a w (.cells #[.int .i64 fa, .int .i64 (1 : Int), .bool fp, .int .i64 ns, .int .i64 (nr : Nat), .slice fq info.length fc] 30))
  have KF := hide kf
  have KA := hide ka
  have HD := hide hdef
  have HV := hide hv1
  have HF := hide hfree
  have HB := hide hbw
  clear h h1 kf ka hdef hv hv1 hfree hbw
  cases hg : isGood c s nr with
  | false =>
    rw [hg] at k1
    have HD2 := hide ((unhide HD).trans (if_pos hg))
    clear HD KA hg
    go_enter Tryz.func163, Tryz.ntmps163
    go_wp2_with fail
    refine k1.mono ?_
    rintro e w1 ⟨rfl, n1, rfl⟩
    clear k1
    go_wp2_with fail
    refine (unhide KF _).mono ?_
    rintro e w2 ⟨rfl, own2, h3, u3⟩
    have HR := hide (And.intro h3 (Upd.t (T := (Value.slice fq info.length fc).ownBlock) (Upd.of (w := w) (below_drewN (unhide HB) _) u3)))
    clear h3 u3 KF
    go_wp2
    first | go_end0 | refine bodyPost_ret (results_none rfl _ _ _) rfl ?_
    rw [unhide HD2]
    exact ⟨rfl, _, (unhide HR).1, (unhide HR).2⟩
  | true =>
    rw [hg] at k1
    have HD2 := hide ((unhide HD).trans (if_neg (by rw [hg]; simp)))
    have KA2 := hide (unhide KA hg)
    clear HD KA KF hg
    go_enter Tryz.func163, Tryz.ntmps163
    go_wp2_with fail
    refine k1.mono ?_
    rintro e w1 ⟨rfl, n1, rfl⟩
    clear k1
    go_wp2_with fail
    refine (unhide KA2 _).mono ?_
    rintro e w2 ⟨rfl, own2, ⟨ch2, q2, cm2, o2, ev2, qe2, ce2, oe2, h2⟩, u2⟩
    have hbox2 := kept_free u2 hn0 (show ((w.alloc (.cells #[.int .i64 fa, .int .i64 (1 : Int), .bool fp, .int .i64 ns, .int .i64 (nr : Nat), .slice fq info.length fc] 30)).drewN n1).heap[w.heap.size]? = some (.cells #[.int .i64 fa, .int .i64 (1 : Int), .bool fp, .int .i64 ns, .int .i64 (nr : Nat), .slice fq info.length fc] 30) from alloc1_a w _)
    obtain ⟨z0, z1, z2, z3, z4, z5⟩ := frBox hbox2
    have hrf := row_free u2 (unhide HV) (unhide HF)
    have ho2 : (acknowledge c nr s).out.length = s.out.length := by rw [acknowledge_out]
    have U2 := hide (Upd.of (w := w) (below_drewN (unhide HB) _) u2)
    have kh := hearMessage_any h2 fa 1 fp ns (nr : Nat) info fq fc hrf.1 hrf.2 (by omega)
    unfold frV at kh
    simp only at kh
    have K3 := hide kh
    clear KA2 u2 h2 hrf kh hbox2 y0 y1 y2 y3 y4 y5
    go_wp2_with fail
    refine (unhide K3).mono ?_
    rintro e w3 ⟨rfl, own3, ⟨ch3, q3, cm3, o3, ev3, qe3, ce3, oe3, h3⟩, u3⟩
    have ho3 := hearMsg_out (c := c) (s := acknowledge c nr s) (⟨fa, 1, fp, ns, (nr : Nat), info⟩ : Fr)
    have K4 := hide (pump_any h3 (by omega))
    have U3 := hide ((unhide U2).transT u3)
    clear K3 u3 h3 U2
    go_wp2_with fail
    refine (unhide K4).mono ?_
    rintro e w4 ⟨rfl, own4, h4, u4⟩
    have HR := hide (And.intro h4 ((unhide U3).trans u4))
    clear h4 u4 K4 U3
    go_wp2
    first | go_end0 | refine bodyPost_ret (results_none rfl _ _ _) rfl ?_
    rw [unhide HD2]
    exact ⟨rfl, _, (unhide HR).1, (unhide HR).2⟩
set_option maxHeartbeats 4000000 in
set_option maxRecDepth 100000 in
theorem hearNum2_any (h : SAt w own i b c s cl ch q cm o ev qe ce oe) (fa : Int) (fp : Bool) (ns : Int) (nr : Nat) (info : Msg) (fq : Option Addr) (fc : Nat) (hnr : nr < c.m) (hvm : ahead c s s.vm ≤ s.queue.length) (hv : w.ownsRow 0 5 1 (.slice fq info.length fc) info.length (Lib.byteCells info)) (hfree : ∀ k, (Value.slice fq info.length fc).ownBlock = some k → own k = 0 ∧ k ≠ 0) (hl : s.out.length + 18 ≤ 2199023255552) (hl2 : s.events.length ≤ 2199023255552) :
    Calls Tryz.prog 163 #[.pointer (some ⟨b, 0, none⟩), frV (⟨fa, 2, fp, ns, (nr : Nat), info⟩ : Fr) fq fc] w fun e w' => DidT (Value.slice fq info.length fc).ownBlock i b c (hearNum c (⟨fa, 2, fp, ns, (nr : Nat), info⟩ : Fr) s) cl own w e w' := by
  have hlt := h.lt
  have hbw : Below w.heap.size w (w.alloc (.cells #[.int .i64 fa, .int .i64 (2 : Int), .bool fp, .int .i64 ns, .int .i64 (nr : Nat), .slice fq info.length fc] 30)) := (Below.refl _ w).alloc (Nat.le_refl _) _
  have h1 := h.later hbw
  have hn0 := h.new0 w.heap.size (Nat.le_refl _)
  have k1 := isGood_any h1 nr hnr
  have hdef : hearNum c (⟨fa, 2, fp, ns, (nr : Nat), info⟩ : Fr) s = if isGood c s nr = false then fallApart c (⟨fa, 2, fp, ns, (nr : Nat), info⟩ : Fr) s else pump c (hearReady c (⟨fa, 2, fp, ns, (nr : Nat), info⟩ : Fr) (acknowledge c nr s)) := rfl
  have kf := fun n => fallApart_any (h1.drewN n) (⟨fa, 2, fp, ns, (nr : Nat), info⟩ : Fr) fq fc (by omega) hl2
  have ka := fun (hg : isGood c s nr = true) n => acknowledge_any (h1.drewN n) nr hnr (Nat.le_trans (by simpa [isGood] using hg) hvm)
  have hv1 := ownsRow_keepsB hv (Keeps.of (X := fun _ => False) hbw) (fun _ _ => id)
  unfold frV at kf ⊢
  simp only at kf ⊢
  obtain ⟨y0, y1, y2, y3, y4, y5⟩ := frBox (alloc1_a w (.cells #[.int .i64 fa, .int .i64 (2 : Int), .bool fp, .int .i64 ns, .int .i64 (nr : Nat), .slice fq info.length fc] 30))
  have KF := hide kf
  have KA := hide ka
  have HD := hide hdef
  have HV := hide hv1
  have HF := hide hfree
  have HB := hide hbw
  clear h h1 kf ka hdef hv hv1 hfree hbw
  cases hg : isGood c s nr with
  | false =>
    rw [hg] at k1
    have HD2 := hide ((unhide HD).trans (if_pos hg))
    clear HD KA hg
    go_enter Tryz.func163, Tryz.ntmps163
    go_wp2_with fail
    refine k1.mono ?_
    rintro e w1 ⟨rfl, n1, rfl⟩
    clear k1
    go_wp2_with fail
    refine (unhide KF _).mono ?_
    rintro e w2 ⟨rfl, own2, h3, u3⟩
    have HR := hide (And.intro h3 (Upd.t (T := (Value.slice fq info.length fc).ownBlock) (Upd.of (w := w) (below_drewN (unhide HB) _) u3)))
    clear h3 u3 KF
    go_wp2
    first | go_end0 | refine bodyPost_ret (results_none rfl _ _ _) rfl ?_
    rw [unhide HD2]
    exact ⟨rfl, _, (unhide HR).1, (unhide HR).2⟩
  | true =>
    rw [hg] at k1
    have HD2 := hide ((unhide HD).trans (if_neg (by rw [hg]; simp)))
    have KA2 := hide (unhide KA hg)
    clear HD KA KF hg
    go_enter Tryz.func163, Tryz.ntmps163
    go_wp2_with fail
    refine k1.mono ?_
    rintro e w1 ⟨rfl, n1, rfl⟩
    clear k1
    go_wp2_with fail
    refine (unhide KA2 _).mono ?_
    rintro e w2 ⟨rfl, own2, ⟨ch2, q2, cm2, o2, ev2, qe2, ce2, oe2, h2⟩, u2⟩
    have hbox2 := kept_free u2 hn0 (show ((w.alloc (.cells #[.int .i64 fa, .int .i64 (2 : Int), .bool fp, .int .i64 ns, .int .i64 (nr : Nat), .slice fq info.length fc] 30)).drewN n1).heap[w.heap.size]? = some (.cells #[.int .i64 fa, .int .i64 (2 : Int), .bool fp, .int .i64 ns, .int .i64 (nr : Nat), .slice fq info.length fc] 30) from alloc1_a w _)
    obtain ⟨z0, z1, z2, z3, z4, z5⟩ := frBox hbox2
    have hrf := row_free u2 (unhide HV) (unhide HF)
    have ho2 : (acknowledge c nr s).out.length = s.out.length := by rw [acknowledge_out]
    have U2 := hide (Upd.of (w := w) (below_drewN (unhide HB) _) u2)
    have kh := hearReady2_any h2 fa ns fp nr info fq fc hnr (by omega)
    unfold frV at kh
    simp only at kh
    have K3 := hide kh
    clear KA2 u2 h2 hrf kh hbox2 y0 y1 y2 y3 y4 y5
    go_wp2_with fail
    refine (unhide K3).mono ?_
    rintro e w3 ⟨rfl, own3, ⟨ch3, q3, cm3, o3, ev3, qe3, ce3, oe3, h3⟩, u3⟩
    have ho3 := hearReady_out (c := c) (s := acknowledge c nr s) (⟨fa, 2, fp, ns, (nr : Nat), info⟩ : Fr)
    have K4 := hide (pump_any h3 (by omega))
    have U3 := hide (Upd.t (T := (Value.slice fq info.length fc).ownBlock) ((unhide U2).trans u3))
    clear K3 u3 h3 U2
    go_wp2_with fail
    refine (unhide K4).mono ?_
    rintro e w4 ⟨rfl, own4, h4, u4⟩
    have HR := hide (And.intro h4 ((unhide U3).trans u4))
    clear h4 u4 K4 U3
    go_wp2
    first | go_end0 | refine bodyPost_ret (results_none rfl _ _ _) rfl ?_
    rw [unhide HD2]
    exact ⟨rfl, _, (unhide HR).1, (unhide HR).2⟩
set_option maxHeartbeats 4000000 in
set_option maxRecDepth 100000 in
theorem hearNum3_any (h : SAt w own i b c s cl ch q cm o ev qe ce oe) (fa : Int) (fp : Bool) (ns : Int) (nr : Nat) (info : Msg) (fq : Option Addr) (fc : Nat) (hnr : nr < c.m) (hvm : ahead c s s.vm ≤ s.queue.length) (hv : w.ownsRow 0 5 1 (.slice fq info.length fc) info.length (Lib.byteCells info)) (hfree : ∀ k, (Value.slice fq info.length fc).ownBlock = some k → own k = 0 ∧ k ≠ 0) (hl : s.out.length + 18 ≤ 2199023255552) (hl2 : s.events.length ≤ 2199023255552) :
    Calls Tryz.prog 163 #[.pointer (some ⟨b, 0, none⟩), frV (⟨fa, 3, fp, ns, (nr : Nat), info⟩ : Fr) fq fc] w fun e w' => DidT (Value.slice fq info.length fc).ownBlock i b c (hearNum c (⟨fa, 3, fp, ns, (nr : Nat), info⟩ : Fr) s) cl own w e w' := by
  have hlt := h.lt
  have hbw : Below w.heap.size w (w.alloc (.cells #[.int .i64 fa, .int .i64 (3 : Int), .bool fp, .int .i64 ns, .int .i64 (nr : Nat), .slice fq info.length fc] 30)) := (Below.refl _ w).alloc (Nat.le_refl _) _
  have h1 := h.later hbw
  have hn0 := h.new0 w.heap.size (Nat.le_refl _)
  have k1 := isGood_any h1 nr hnr
  have hdef : hearNum c (⟨fa, 3, fp, ns, (nr : Nat), info⟩ : Fr) s = if isGood c s nr = false then fallApart c (⟨fa, 3, fp, ns, (nr : Nat), info⟩ : Fr) s else pump c (hearReady c (⟨fa, 3, fp, ns, (nr : Nat), info⟩ : Fr) (acknowledge c nr s)) := rfl
  have kf := fun n => fallApart_any (h1.drewN n) (⟨fa, 3, fp, ns, (nr : Nat), info⟩ : Fr) fq fc (by omega) hl2
  have ka := fun (hg : isGood c s nr = true) n => acknowledge_any (h1.drewN n) nr hnr (Nat.le_trans (by simpa [isGood] using hg) hvm)
  have hv1 := ownsRow_keepsB hv (Keeps.of (X := fun _ => False) hbw) (fun _ _ => id)
  unfold frV at kf ⊢
  simp only at kf ⊢
  obtain ⟨y0, y1, y2, y3, y4, y5⟩ := frBox (alloc1_a w (.cells #[.int .i64 fa, .int .i64 (3 : Int), .bool fp, .int .i64 ns, .int .i64 (nr : Nat), .slice fq info.length fc] 30))
  have KF := hide kf
  have KA := hide ka
  have HD := hide hdef
  have HV := hide hv1
  have HF := hide hfree
  have HB := hide hbw
  clear h h1 kf ka hdef hv hv1 hfree hbw
  cases hg : isGood c s nr with
  | false =>
    rw [hg] at k1
    have HD2 := hide ((unhide HD).trans (if_pos hg))
    clear HD KA hg
    go_enter Tryz.func163, Tryz.ntmps163
    go_wp2_with fail
    refine k1.mono ?_
    rintro e w1 ⟨rfl, n1, rfl⟩
    clear k1
    go_wp2_with fail
    refine (unhide KF _).mono ?_
    rintro e w2 ⟨rfl, own2, h3, u3⟩
    have HR := hide (And.intro h3 (Upd.t (T := (Value.slice fq info.length fc).ownBlock) (Upd.of (w := w) (below_drewN (unhide HB) _) u3)))
    clear h3 u3 KF
    go_wp2
    first | go_end0 | refine bodyPost_ret (results_none rfl _ _ _) rfl ?_
    rw [unhide HD2]
    exact ⟨rfl, _, (unhide HR).1, (unhide HR).2⟩
  | true =>
    rw [hg] at k1
    have HD2 := hide ((unhide HD).trans (if_neg (by rw [hg]; simp)))
    have KA2 := hide (unhide KA hg)
    clear HD KA KF hg
    go_enter Tryz.func163, Tryz.ntmps163
    go_wp2_with fail
    refine k1.mono ?_
    rintro e w1 ⟨rfl, n1, rfl⟩
    clear k1
    go_wp2_with fail
    refine (unhide KA2 _).mono ?_
    rintro e w2 ⟨rfl, own2, ⟨ch2, q2, cm2, o2, ev2, qe2, ce2, oe2, h2⟩, u2⟩
    have hbox2 := kept_free u2 hn0 (show ((w.alloc (.cells #[.int .i64 fa, .int .i64 (3 : Int), .bool fp, .int .i64 ns, .int .i64 (nr : Nat), .slice fq info.length fc] 30)).drewN n1).heap[w.heap.size]? = some (.cells #[.int .i64 fa, .int .i64 (3 : Int), .bool fp, .int .i64 ns, .int .i64 (nr : Nat), .slice fq info.length fc] 30) from alloc1_a w _)
    obtain ⟨z0, z1, z2, z3, z4, z5⟩ := frBox hbox2
    have hrf := row_free u2 (unhide HV) (unhide HF)
    have ho2 : (acknowledge c nr s).out.length = s.out.length := by rw [acknowledge_out]
    have U2 := hide (Upd.of (w := w) (below_drewN (unhide HB) _) u2)
    have kh := hearReady3_any h2 fa ns fp nr info fq fc hnr (by omega)
    unfold frV at kh
    simp only at kh
    have K3 := hide kh
    clear KA2 u2 h2 hrf kh hbox2 y0 y1 y2 y3 y4 y5
    go_wp2_with fail
    refine (unhide K3).mono ?_
    rintro e w3 ⟨rfl, own3, ⟨ch3, q3, cm3, o3, ev3, qe3, ce3, oe3, h3⟩, u3⟩
    have ho3 := hearReady_out (c := c) (s := acknowledge c nr s) (⟨fa, 3, fp, ns, (nr : Nat), info⟩ : Fr)
    have K4 := hide (pump_any h3 (by omega))
    have U3 := hide (Upd.t (T := (Value.slice fq info.length fc).ownBlock) ((unhide U2).trans u3))
    clear K3 u3 h3 U2
    go_wp2_with fail
    refine (unhide K4).mono ?_
    rintro e w4 ⟨rfl, own4, h4, u4⟩
    have HR := hide (And.intro h4 ((unhide U3).trans u4))
    clear h4 u4 K4 U3
    go_wp2
    first | go_end0 | refine bodyPost_ret (results_none rfl _ _ _) rfl ?_
    rw [unhide HD2]
    exact ⟨rfl, _, (unhide HR).1, (unhide HR).2⟩
set_option maxHeartbeats 4000000 in
set_option maxRecDepth 100000 in
theorem hearNum4_any (h : SAt w own i b c s cl ch q cm o ev qe ce oe) (fa : Int) (fp : Bool) (ns : Int) (nr : Nat) (info : Msg) (fq : Option Addr) (fc : Nat) (hnr : nr < c.m) (hvm : ahead c s s.vm ≤ s.queue.length) (hv : w.ownsRow 0 5 1 (.slice fq info.length fc) info.length (Lib.byteCells info)) (hfree : ∀ k, (Value.slice fq info.length fc).ownBlock = some k → own k = 0 ∧ k ≠ 0) (hl : s.out.length + 18 ≤ 2199023255552) (hl2 : s.events.length ≤ 2199023255552) :
    Calls Tryz.prog 163 #[.pointer (some ⟨b, 0, none⟩), frV (⟨fa, 4, fp, ns, (nr : Nat), info⟩ : Fr) fq fc] w fun e w' => DidT (Value.slice fq info.length fc).ownBlock i b c (hearNum c (⟨fa, 4, fp, ns, (nr : Nat), info⟩ : Fr) s) cl own w e w' := by
  have hlt := h.lt
  have hbw : Below w.heap.size w (w.alloc (.cells #[.int .i64 fa, .int .i64 (4 : Int), .bool fp, .int .i64 ns, .int .i64 (nr : Nat), .slice fq info.length fc] 30)) := (Below.refl _ w).alloc (Nat.le_refl _) _
  have h1 := h.later hbw
  have hn0 := h.new0 w.heap.size (Nat.le_refl _)
  have k1 := isGood_any h1 nr hnr
  have hdef : hearNum c (⟨fa, 4, fp, ns, (nr : Nat), info⟩ : Fr) s = if isGood c s nr = false then fallApart c (⟨fa, 4, fp, ns, (nr : Nat), info⟩ : Fr) s else pump c (hearReady c (⟨fa, 4, fp, ns, (nr : Nat), info⟩ : Fr) (acknowledge c nr s)) := rfl
  have kf := fun n => fallApart_any (h1.drewN n) (⟨fa, 4, fp, ns, (nr : Nat), info⟩ : Fr) fq fc (by omega) hl2
  have ka := fun (hg : isGood c s nr = true) n => acknowledge_any (h1.drewN n) nr hnr (Nat.le_trans (by simpa [isGood] using hg) hvm)
  have hv1 := ownsRow_keepsB hv (Keeps.of (X := fun _ => False) hbw) (fun _ _ => id)
  unfold frV at kf ⊢
  simp only at kf ⊢
  obtain ⟨y0, y1, y2, y3, y4, y5⟩ := frBox (alloc1_a w (.cells #[.int .i64 fa, .int .i64 (4 : Int), .bool fp, .int .i64 ns, .int .i64 (nr : Nat), .slice fq info.length fc] 30))
  have KF := hide kf
  have KA := hide ka
  have HD := hide hdef
  have HV := hide hv1
  have HF := hide hfree
  have HB := hide hbw
  clear h h1 kf ka hdef hv hv1 hfree hbw
  cases hg : isGood c s nr with
  | false =>
    rw [hg] at k1
    have HD2 := hide ((unhide HD).trans (if_pos hg))
    clear HD KA hg
    go_enter Tryz.func163, Tryz.ntmps163
    go_wp2_with fail
    refine k1.mono ?_
    rintro e w1 ⟨rfl, n1, rfl⟩
    clear k1
    go_wp2_with fail
    refine (unhide KF _).mono ?_
    rintro e w2 ⟨rfl, own2, h3, u3⟩
    have HR := hide (And.intro h3 (Upd.t (T := (Value.slice fq info.length fc).ownBlock) (Upd.of (w := w) (below_drewN (unhide HB) _) u3)))
    clear h3 u3 KF
    go_wp2
    first | go_end0 | refine bodyPost_ret (results_none rfl _ _ _) rfl ?_
    rw [unhide HD2]
    exact ⟨rfl, _, (unhide HR).1, (unhide HR).2⟩
  | true =>
    rw [hg] at k1
    have HD2 := hide ((unhide HD).trans (if_neg (by rw [hg]; simp)))
    have KA2 := hide (unhide KA hg)
    clear HD KA KF hg
    go_enter Tryz.func163, Tryz.ntmps163
    go_wp2_with fail
    refine k1.mono ?_
    rintro e w1 ⟨rfl, n1, rfl⟩
    clear k1
    go_wp2_with fail
    refine (unhide KA2 _).mono ?_
    rintro e w2 ⟨rfl, own2, ⟨ch2, q2, cm2, o2, ev2, qe2, ce2, oe2, h2⟩, u2⟩
    have hbox2 := kept_free u2 hn0 (show ((w.alloc (.cells #[.int .i64 fa, .int .i64 (4 : Int), .bool fp, .int .i64 ns, .int .i64 (nr : Nat), .slice fq info.length fc] 30)).drewN n1).heap[w.heap.size]? = some (.cells #[.int .i64 fa, .int .i64 (4 : Int), .bool fp, .int .i64 ns, .int .i64 (nr : Nat), .slice fq info.length fc] 30) from alloc1_a w _)
    obtain ⟨z0, z1, z2, z3, z4, z5⟩ := frBox hbox2
    have hrf := row_free u2 (unhide HV) (unhide HF)
    have ho2 : (acknowledge c nr s).out.length = s.out.length := by rw [acknowledge_out]
    have U2 := hide (Upd.of (w := w) (below_drewN (unhide HB) _) u2)
    have kh := hearReady4_any h2 fa ns fp nr info fq fc hnr (by omega)
    unfold frV at kh
    simp only at kh
    have K3 := hide kh
    clear KA2 u2 h2 hrf kh hbox2 y0 y1 y2 y3 y4 y5
    go_wp2_with fail
    refine (unhide K3).mono ?_
    rintro e w3 ⟨rfl, own3, ⟨ch3, q3, cm3, o3, ev3, qe3, ce3, oe3, h3⟩, u3⟩
    have ho3 := hearReady_out (c := c) (s := acknowledge c nr s) (⟨fa, 4, fp, ns, (nr : Nat), info⟩ : Fr)
    have K4 := hide (pump_any h3 (by omega))
    have U3 := hide (Upd.t (T := (Value.slice fq info.length fc).ownBlock) ((unhide U2).trans u3))
    clear K3 u3 h3 U2
    go_wp2_with fail
    refine (unhide K4).mono ?_
    rintro e w4 ⟨rfl, own4, h4, u4⟩
    have HR := hide (And.intro h4 ((unhide U3).trans u4))
    clear h4 u4 K4 U3
    go_wp2
    first | go_end0 | refine bodyPost_ret (results_none rfl _ _ _) rfl ?_
    rw [unhide HD2]
    exact ⟨rfl, _, (unhide HR).1, (unhide HR).2⟩
end
end Go.Proofs.YtkalonhalhdlaaaGreatDoor

/-
  What one call of hearUp, hearBroken, hearFrame does.
-/
namespace Go.Proofs.YtkalonhalhdlaaaGreatDoor
open Go.RowKit
section
variable {w W : World} {own : Nat → Nat} {i b : Nat} {c : Cfg} {s : St} {cl : Bool} {ch : Nat} {q cm o ev : Value} {qe ce oe : List Value}
theorem UpdT.of {T : Option Nat} {own1 : Nat → Nat} {w1 : World} (hb : Below w.heap.size w W) (h : UpdT T i own own1 W w1) : UpdT T i own own1 w w1 :=
  (show Upd i own own w W from ⟨Keeps.of hb, fun _ _ => rfl⟩).transT h
set_option maxHeartbeats 4000000 in
set_option maxRecDepth 100000 in
theorem hearUp_any (h : SAt w own i b c s cl ch q cm o ev qe ce oe) (fa fk : Int) (fp : Bool) (ns : Int) (nr : Nat) (info : Msg) (fq : Option Addr) (fc : Nat) (hnr : nr < c.m) (hvm : ahead c s s.vm ≤ s.queue.length) (hv : w.ownsRow 0 5 1 (.slice fq info.length fc) info.length (Lib.byteCells info)) (hfree : ∀ k, (Value.slice fq info.length fc).ownBlock = some k → own k = 0 ∧ k ≠ 0) (hl : s.out.length + 18 ≤ 2199023255552) (hl2 : s.events.length + 2 ≤ 2199023255552) :
    Calls Tryz.prog 145 #[.pointer (some ⟨b, 0, none⟩), frV (⟨fa, fk, fp, ns, (nr : Nat), info⟩ : Fr) fq fc] w fun e w' => DidT (Value.slice fq info.length fc).ownBlock i b c (hearUp c (⟨fa, fk, fp, ns, (nr : Nat), info⟩ : Fr) s) cl own w e w' := by
  have hlt := h.lt
  have hbw : Below w.heap.size w (w.alloc (.cells #[.int .i64 fa, .int .i64 fk, .bool fp, .int .i64 ns, .int .i64 (nr : Nat), .slice fq info.length fc] 30)) := (Below.refl _ w).alloc (Nat.le_refl _) _
  have k5 := fun V (hV : Below w.heap.size w V) => accept_any (h.later hV) 2 (⟨fa, fk, fp, ns, (nr : Nat), info⟩ : Fr) fq fc (by omega) (by omega)
  have k6 := fun V (hV : Below w.heap.size w V) => agree_any (h.later hV) (⟨fa, fk, fp, ns, (nr : Nat), info⟩ : Fr) fq fc (by omega) (by omega)
  have k8 := fun V (hV : Below w.heap.size w V) => goDown_any (h.later hV) 3 (by omega)
  have k7 := fun V (hV : Below w.heap.size w V) => tell_any (h.later hV) 2 (by omega)
  have hvV := fun V (hV : Below w.heap.size w V) => ownsRow_keepsB hv (Keeps.of (X := fun _ => False) hV) (fun _ _ => id)
  have n1 := fun V (hV : Below w.heap.size w V) => hearNum1_any (h.later hV) fa fp ns nr info fq fc hnr hvm (hvV V hV) hfree hl (by omega)
  have n2 := fun V (hV : Below w.heap.size w V) => hearNum2_any (h.later hV) fa fp ns nr info fq fc hnr hvm (hvV V hV) hfree hl (by omega)
  have n3 := fun V (hV : Below w.heap.size w V) => hearNum3_any (h.later hV) fa fp ns nr info fq fc hnr hvm (hvV V hV) hfree hl (by omega)
  have n4 := fun V (hV : Below w.heap.size w V) => hearNum4_any (h.later hV) fa fp ns nr info fq fc hnr hvm (hvV V hV) hfree hl (by omega)
  have hdef : hearUp c (⟨fa, fk, fp, ns, (nr : Nat), info⟩ : Fr) s = if fk = 5 then accept c fp 2 s else if fk = 6 then agree c fp s else if fk = 8 then goDown 3 s else if fk = 7 ∨ fk = 9 then callS c (tell 2 s) else if fk = 1 ∨ fk = 2 ∨ fk = 3 ∨ fk = 4 then hearNum c (⟨fa, fk, fp, ns, (nr : Nat), info⟩ : Fr) s else s := rfl
  unfold frV at k5 k6 n1 n2 n3 n4 ⊢
  simp only at k5 k6 n1 n2 n3 n4 ⊢
  have K5 := hide k5
  have K6 := hide k6
  have K7 := hide k7
  have K8 := hide k8
  have N1 := hide n1
  have N2 := hide n2
  have N3 := hide n3
  have N4 := hide n4
  have HD := hide hdef
  have HB := hide hbw
  have HI := hide h
  clear h k5 k6 k7 k8 n1 n2 n3 n4 hdef hbw hvV hv hfree
  by_cases h5 : fk = 5
  · have HD2 := hide ((unhide HD).trans (if_pos h5))
    clear HD
    subst h5
    go_enter Tryz.func145, Tryz.ntmps145
    go_wp2_with fail
    refine (unhide K5 _ (unhide HB)).mono ?_
    rintro e w1 ⟨rfl, own2, h3, u3⟩
    have HR := hide (And.intro h3 (Upd.t (T := (Value.slice fq info.length fc).ownBlock) (Upd.of (w := w) (unhide HB) u3)))
    clear h3 u3 K5
    go_wp2
    first | go_end0 | refine bodyPost_ret (results_none rfl _ _ _) rfl ?_
    rw [unhide HD2]
    exact ⟨rfl, _, (unhide HR).1, (unhide HR).2⟩
  have HD5 := hide ((unhide HD).trans (if_neg h5))
  clear HD
  by_cases h6 : fk = 6
  · have HD2 := hide ((unhide HD5).trans (if_pos h6))
    clear HD5
    subst h6
    go_enter Tryz.func145, Tryz.ntmps145
    go_wp2_with fail
    refine (unhide K6 _ (unhide HB)).mono ?_
    rintro e w1 ⟨rfl, own2, h3, u3⟩
    have HR := hide (And.intro h3 (Upd.t (T := (Value.slice fq info.length fc).ownBlock) (Upd.of (w := w) (unhide HB) u3)))
    clear h3 u3 K6
    go_wp2
    first | go_end0 | refine bodyPost_ret (results_none rfl _ _ _) rfl ?_
    rw [unhide HD2]
    exact ⟨rfl, _, (unhide HR).1, (unhide HR).2⟩
  have HD6 := hide ((unhide HD5).trans (if_neg h6))
  clear HD5
  by_cases h8 : fk = 8
  · have HD2 := hide ((unhide HD6).trans (if_pos h8))
    clear HD6
    subst h8
    go_enter Tryz.func145, Tryz.ntmps145
    go_wp2_with fail
    refine (unhide K8 _ (unhide HB)).mono ?_
    rintro e w1 ⟨rfl, own2, h3, u3⟩
    have HR := hide (And.intro h3 (Upd.t (T := (Value.slice fq info.length fc).ownBlock) (Upd.of (w := w) (unhide HB) u3)))
    clear h3 u3 K8
    go_wp2
    first | go_end0 | refine bodyPost_ret (results_none rfl _ _ _) rfl ?_
    rw [unhide HD2]
    exact ⟨rfl, _, (unhide HR).1, (unhide HR).2⟩
  have HD8 := hide ((unhide HD6).trans (if_neg h8))
  clear HD6
  by_cases h7 : fk = 7 ∨ fk = 9
  · have HD2 := hide ((unhide HD8).trans (if_pos h7))
    clear HD8
    rcases h7 with rfl | rfl
    all_goals
      go_enter Tryz.func145, Tryz.ntmps145
      go_wp2_with fail
      refine (unhide K7 _ (unhide HB)).mono ?_
      rintro e w1 ⟨rfl, own1, ⟨ch1, q1, cm1, o1, ev1, qe1, ce1, oe1, h1⟩, u1⟩
      have K9 := hide (call_any h1 (by show s.out.length ≤ _; omega))
      have U1 := hide (Upd.of (w := w) (unhide HB) u1)
      clear K7 h1 u1
      go_wp2_with fail
      refine (unhide K9).mono ?_
      rintro e w2 ⟨rfl, own2, h3, u3⟩
      have HR := hide (And.intro h3 (Upd.t (T := (Value.slice fq info.length fc).ownBlock) ((unhide U1).trans u3)))
      clear h3 u3 K9 U1
      go_wp2
      first | go_end0 | refine bodyPost_ret (results_none rfl _ _ _) rfl ?_
      rw [unhide HD2]
      exact ⟨rfl, _, (unhide HR).1, (unhide HR).2⟩
  have HD7 := hide ((unhide HD8).trans (if_neg h7))
  clear HD8
  by_cases h1 : fk = 1 ∨ fk = 2 ∨ fk = 3 ∨ fk = 4
  · have HD2 := hide ((unhide HD7).trans (if_pos h1))
    clear HD7
    rcases h1 with rfl | rfl | rfl | rfl
    · go_enter Tryz.func145, Tryz.ntmps145
      go_wp2_with fail
      refine (unhide N1 _ (unhide HB)).mono ?_
      rintro e w1 ⟨rfl, own2, h3, u3⟩
      have HR := hide (And.intro h3 (UpdT.of (w := w) (unhide HB) u3))
      clear h3 u3 N1
      go_wp2
      first | go_end0 | refine bodyPost_ret (results_none rfl _ _ _) rfl ?_
      rw [unhide HD2]
      exact ⟨rfl, _, (unhide HR).1, (unhide HR).2⟩
    · go_enter Tryz.func145, Tryz.ntmps145
      go_wp2_with fail
      refine (unhide N2 _ (unhide HB)).mono ?_
      rintro e w1 ⟨rfl, own2, h3, u3⟩
      have HR := hide (And.intro h3 (UpdT.of (w := w) (unhide HB) u3))
      clear h3 u3 N2
      go_wp2
      first | go_end0 | refine bodyPost_ret (results_none rfl _ _ _) rfl ?_
      rw [unhide HD2]
      exact ⟨rfl, _, (unhide HR).1, (unhide HR).2⟩
    · go_enter Tryz.func145, Tryz.ntmps145
      go_wp2_with fail
      refine (unhide N3 _ (unhide HB)).mono ?_
      rintro e w1 ⟨rfl, own2, h3, u3⟩
      have HR := hide (And.intro h3 (UpdT.of (w := w) (unhide HB) u3))
      clear h3 u3 N3
      go_wp2
      first | go_end0 | refine bodyPost_ret (results_none rfl _ _ _) rfl ?_
      rw [unhide HD2]
      exact ⟨rfl, _, (unhide HR).1, (unhide HR).2⟩
    · go_enter Tryz.func145, Tryz.ntmps145
      go_wp2_with fail
      refine (unhide N4 _ (unhide HB)).mono ?_
      rintro e w1 ⟨rfl, own2, h3, u3⟩
      have HR := hide (And.intro h3 (UpdT.of (w := w) (unhide HB) u3))
      clear h3 u3 N4
      go_wp2
      first | go_end0 | refine bodyPost_ret (results_none rfl _ _ _) rfl ?_
      rw [unhide HD2]
      exact ⟨rfl, _, (unhide HR).1, (unhide HR).2⟩
  have HD2 := hide ((unhide HD7).trans (if_neg h1))
  have n1 : (fk == 1) = false := by simp; omega
  have n2 : (fk == 2) = false := by simp; omega
  have n3 : (fk == 3) = false := by simp; omega
  have n4 : (fk == 4) = false := by simp; omega
  have n5 : (fk == 5) = false := by simp; omega
  have n6 : (fk == 6) = false := by simp; omega
  have n7 : (fk == 7) = false := by simp; omega
  have n8 : (fk == 8) = false := by simp; omega
  have n9 : (fk == 9) = false := by simp; omega
  clear HD7 h1 h5 h6 h7 h8 K5 K6 K7 K8 N1 N2 N3 N4
  go_enter Tryz.func145, Tryz.ntmps145
  go_wp2
  first | go_end0 | refine bodyPost_ret (results_none rfl _ _ _) rfl ?_
  rw [unhide HD2]
  exact Did.t ((unhide HI).idleB (unhide HB))
set_option maxHeartbeats 4000000 in
set_option maxRecDepth 100000 in
theorem hearBroken_any (h : SAt w own i b c s cl ch q cm o ev qe ce oe) (fa fk : Int) (fp : Bool) (ns : Int) (nr : Nat) (info : Msg) (fq : Option Addr) (fc : Nat) (hnr : nr < c.m) (hvm : ahead c s s.vm ≤ s.queue.length) (hv : w.ownsRow 0 5 1 (.slice fq info.length fc) info.length (Lib.byteCells info)) (hfree : ∀ k, (Value.slice fq info.length fc).ownBlock = some k → own k = 0 ∧ k ≠ 0) (hl : s.out.length + 18 ≤ 2199023255552) (hl2 : s.events.length + 2 ≤ 2199023255552) :
    Calls Tryz.prog 147 #[.pointer (some ⟨b, 0, none⟩), frV (⟨fa, fk, fp, ns, (nr : Nat), info⟩ : Fr) fq fc] w fun e w' => DidT (Value.slice fq info.length fc).ownBlock i b c (hearBroken c (⟨fa, fk, fp, ns, (nr : Nat), info⟩ : Fr) s) cl own w e w' := by
  have hlt := h.lt
  have hbw : Below w.heap.size w (w.alloc (.cells #[.int .i64 fa, .int .i64 fk, .bool fp, .int .i64 ns, .int .i64 (nr : Nat), .slice fq info.length fc] 30)) := (Below.refl _ w).alloc (Nat.le_refl _) _
  have hvV := fun V (hV : Below w.heap.size w V) => ownsRow_keepsB hv (Keeps.of (X := fun _ => False) hV) (fun _ _ => id)
  have k1 := fun V (hV : Below w.heap.size w V) => hearUp_any (h.later hV) fa fk fp ns nr info fq fc hnr hvm (hvV V hV) hfree hl hl2
  have k2 := fun V (hV : Below w.heap.size w V) => isCommand_any (h.later hV) (⟨fa, fk, fp, ns, (nr : Nat), info⟩ : Fr) fq fc
  have k3 := fun V (hV : Below w.heap.size w V) => report_any (h.later hV) fp (by omega)
  have hdef : hearBroken c (⟨fa, fk, fp, ns, (nr : Nat), info⟩ : Fr) s = if fk = 5 ∨ fk = 6 ∨ fk = 8 then hearUp c (⟨fa, fk, fp, ns, (nr : Nat), info⟩ : Fr) s else if fk = 1 ∨ fk = 2 ∨ fk = 3 ∨ fk = 4 then (if isCmd c (⟨fa, fk, fp, ns, (nr : Nat), info⟩ : Fr) then report c fp s else s) else s := rfl
  unfold frV at k1 k2 ⊢
  simp only at k1 k2 ⊢
  generalize hx : isCmd c (⟨fa, fk, fp, ns, (nr : Nat), info⟩ : Fr) = x at k2 hdef
  have K1 := hide k1
  have K2 := hide k2
  have K3 := hide k3
  have HD := hide hdef
  have HB := hide hbw
  have HI := hide h
  clear h k1 k2 k3 hdef hbw hvV hv hfree hx
  by_cases h5 : fk = 5 ∨ fk = 6 ∨ fk = 8
  · have HD2 := hide ((unhide HD).trans (if_pos h5))
    clear HD
    rcases h5 with rfl | rfl | rfl
    all_goals
      go_enter Tryz.func147, Tryz.ntmps147
      go_wp2_with fail
      refine (unhide K1 _ (unhide HB)).mono ?_
      rintro e w1 ⟨rfl, own2, h3, u3⟩
      have HR := hide (And.intro h3 (UpdT.of (w := w) (unhide HB) u3))
      clear h3 u3 K1
      go_wp2
      first | go_end0 | refine bodyPost_ret (results_none rfl _ _ _) rfl ?_
      rw [unhide HD2]
      exact ⟨rfl, _, (unhide HR).1, (unhide HR).2⟩
  have HD5 := hide ((unhide HD).trans (if_neg h5))
  clear HD
  by_cases h1 : fk = 1 ∨ fk = 2 ∨ fk = 3 ∨ fk = 4
  · have HD6 := hide ((unhide HD5).trans (if_pos h1))
    clear HD5 h5
    cases x with
    | true =>
      have HD2 := hide ((unhide HD6).trans (if_pos rfl))
      clear HD6
      rcases h1 with rfl | rfl | rfl | rfl
      all_goals
        go_enter Tryz.func147, Tryz.ntmps147
        go_wp2_with fail
        refine (unhide K2 _ (unhide HB)).mono ?_
        rintro e w1 ⟨rfl, hb⟩
        obtain ⟨y0, y1, y2, y3, y4, y5⟩ := frBox (boxB hb)
        have HB1 := hide ((unhide HB).trans (hb.mono (by simp)))
        clear hb K2
        go_wp2_with fail
        refine (unhide K3 _ (unhide HB1)).mono ?_
        rintro e w1 ⟨rfl, own2, h3, u3⟩
        have HR := hide (And.intro h3 (Upd.t (T := (Value.slice fq info.length fc).ownBlock) (Upd.of (w := w) (unhide HB1) u3)))
        clear h3 u3 K3
        go_wp2
        first | go_end0 | refine bodyPost_ret (results_none rfl _ _ _) rfl ?_
        rw [unhide HD2]
        exact ⟨rfl, _, (unhide HR).1, (unhide HR).2⟩
    | false =>
      have HD2 := hide ((unhide HD6).trans (if_neg (by simp)))
      clear HD6
      rcases h1 with rfl | rfl | rfl | rfl
      all_goals
        go_enter Tryz.func147, Tryz.ntmps147
        go_wp2_with fail
        refine (unhide K2 _ (unhide HB)).mono ?_
        rintro e w1 ⟨rfl, hb⟩
        have HB1 := hide ((unhide HB).trans (hb.mono (by simp)))
        clear hb K2
        go_wp2
        first | go_end0 | refine bodyPost_ret (results_none rfl _ _ _) rfl ?_
        rw [unhide HD2]
        exact Did.t ((unhide HI).idleB (unhide HB1))
  have HD2 := hide ((unhide HD5).trans (if_neg h1))
  have n1 : (fk == 1) = false := by simp; omega
  have n2 : (fk == 2) = false := by simp; omega
  have n3 : (fk == 3) = false := by simp; omega
  have n4 : (fk == 4) = false := by simp; omega
  have n5 : (fk == 5) = false := by simp; omega
  have n6 : (fk == 6) = false := by simp; omega
  have n8 : (fk == 8) = false := by simp; omega
  clear HD5 h1 h5 K1 K2 K3
  go_enter Tryz.func147, Tryz.ntmps147
  go_wp2
  first | go_end0 | refine bodyPost_ret (results_none rfl _ _ _) rfl ?_
  rw [unhide HD2]
  exact Did.t ((unhide HI).idleB (unhide HB))
set_option maxHeartbeats 4000000 in
set_option maxRecDepth 100000 in
theorem hearFrame_any (h : SAt w own i b c s cl ch q cm o ev qe ce oe) (fa fk : Int) (fp : Bool) (ns : Int) (nr : Nat) (info : Msg) (fq : Option Addr) (fc : Nat) (hnr : nr < c.m) (hvm : ahead c s s.vm ≤ s.queue.length) (hv : w.ownsRow 0 5 1 (.slice fq info.length fc) info.length (Lib.byteCells info)) (hfree : ∀ k, (Value.slice fq info.length fc).ownBlock = some k → own k = 0 ∧ k ≠ 0) (hl : s.out.length + 18 ≤ 2199023255552) (hl2 : s.events.length + 2 ≤ 2199023255552) :
    Calls Tryz.prog 121 #[.pointer (some ⟨b, 0, none⟩), frV (⟨fa, fk, fp, ns, (nr : Nat), info⟩ : Fr) fq fc] w fun e w' => DidT (Value.slice fq info.length fc).ownBlock i b c (hearFrame c (⟨fa, fk, fp, ns, (nr : Nat), info⟩ : Fr) s) cl own w e w' := by
  have hlt := h.lt
  have c7 := h.c_state
  have hs4 := h.sok.state
  have hbw : Below w.heap.size w (w.alloc (.cells #[.int .i64 fa, .int .i64 fk, .bool fp, .int .i64 ns, .int .i64 (nr : Nat), .slice fq info.length fc] 30)) := (Below.refl _ w).alloc (Nat.le_refl _) _
  have hvV := fun V (hV : Below w.heap.size w V) => ownsRow_keepsB hv (Keeps.of (X := fun _ => False) hV) (fun _ _ => id)
  have k0 := fun V (hV : Below w.heap.size w V) => hearDown_any (h.later hV) (⟨fa, fk, fp, ns, (nr : Nat), info⟩ : Fr) fq fc (by omega) (by omega)
  have k1 := fun V (hV : Below w.heap.size w V) => hearCalling_any (h.later hV) (⟨fa, fk, fp, ns, (nr : Nat), info⟩ : Fr) fq fc (by omega) (by omega)
  have k2 := fun V (hV : Below w.heap.size w V) => hearUp_any (h.later hV) fa fk fp ns nr info fq fc hnr hvm (hvV V hV) hfree hl hl2
  have k3 := fun V (hV : Below w.heap.size w V) => hearLeaving_any (h.later hV) (⟨fa, fk, fp, ns, (nr : Nat), info⟩ : Fr) fq fc (by omega) (by omega)
  have k4 := fun V (hV : Below w.heap.size w V) => hearBroken_any (h.later hV) fa fk fp ns nr info fq fc hnr hvm (hvV V hV) hfree hl hl2
  have hdef : hearFrame c (⟨fa, fk, fp, ns, (nr : Nat), info⟩ : Fr) s = if s.state = 0 then hearDown c (⟨fa, fk, fp, ns, (nr : Nat), info⟩ : Fr) s else if s.state = 1 then hearCalling c (⟨fa, fk, fp, ns, (nr : Nat), info⟩ : Fr) s else if s.state = 2 then hearUp c (⟨fa, fk, fp, ns, (nr : Nat), info⟩ : Fr) s else if s.state = 3 then hearLeaving c (⟨fa, fk, fp, ns, (nr : Nat), info⟩ : Fr) s else if s.state = 4 then hearBroken c (⟨fa, fk, fp, ns, (nr : Nat), info⟩ : Fr) s else s := rfl
  unfold frV at k0 k1 k2 k3 k4 ⊢
  simp only at k0 k1 k2 k3 k4 ⊢
  have K0 := hide k0
  have K1 := hide k1
  have K2 := hide k2
  have K3 := hide k3
  have K4 := hide k4
  have HB := hide hbw
  clear h k0 k1 k2 k3 k4 hbw hvV hv hfree
  have hst : s.state = 0 ∨ s.state = 1 ∨ s.state = 2 ∨ s.state = 3 ∨ s.state = 4 := by omega
  rcases hst with e | e | e | e | e
  · have HD2 : Hid (hearFrame c (⟨fa, fk, fp, ns, (nr : Nat), info⟩ : Fr) s = hearDown c (⟨fa, fk, fp, ns, (nr : Nat), info⟩ : Fr) s) := hide (by rw [hdef, if_pos e])
    rw [e] at c7
    clear e hdef
    go_enter Tryz.func121, Tryz.ntmps121
    go_wp2_with fail
    refine (unhide K0 _ (unhide HB)).mono ?_
    rintro e w1 ⟨rfl, own2, h3, u3⟩
    have HR := hide (And.intro h3 (Upd.t (T := (Value.slice fq info.length fc).ownBlock) (Upd.of (w := w) (unhide HB) u3)))
    clear h3 u3 K0
    go_wp2
    first | go_end0 | refine bodyPost_ret (results_none rfl _ _ _) rfl ?_
    rw [unhide HD2]
    exact ⟨rfl, _, (unhide HR).1, (unhide HR).2⟩
  · have HD2 : Hid (hearFrame c (⟨fa, fk, fp, ns, (nr : Nat), info⟩ : Fr) s = hearCalling c (⟨fa, fk, fp, ns, (nr : Nat), info⟩ : Fr) s) := hide (by rw [hdef, if_neg (by omega), if_pos e])
    rw [e] at c7
    clear e hdef
    go_enter Tryz.func121, Tryz.ntmps121
    go_wp2_with fail
    refine (unhide K1 _ (unhide HB)).mono ?_
    rintro e w1 ⟨rfl, own2, h3, u3⟩
    have HR := hide (And.intro h3 (Upd.t (T := (Value.slice fq info.length fc).ownBlock) (Upd.of (w := w) (unhide HB) u3)))
    clear h3 u3 K1
    go_wp2
    first | go_end0 | refine bodyPost_ret (results_none rfl _ _ _) rfl ?_
    rw [unhide HD2]
    exact ⟨rfl, _, (unhide HR).1, (unhide HR).2⟩
  · have HD2 : Hid (hearFrame c (⟨fa, fk, fp, ns, (nr : Nat), info⟩ : Fr) s = hearUp c (⟨fa, fk, fp, ns, (nr : Nat), info⟩ : Fr) s) := hide (by rw [hdef, if_neg (by omega), if_neg (by omega), if_pos e])
    rw [e] at c7
    clear e hdef
    go_enter Tryz.func121, Tryz.ntmps121
    go_wp2_with fail
    refine (unhide K2 _ (unhide HB)).mono ?_
    rintro e w1 ⟨rfl, own2, h3, u3⟩
    have HR := hide (And.intro h3 (UpdT.of (w := w) (unhide HB) u3))
    clear h3 u3 K2
    go_wp2
    first | go_end0 | refine bodyPost_ret (results_none rfl _ _ _) rfl ?_
    rw [unhide HD2]
    exact ⟨rfl, _, (unhide HR).1, (unhide HR).2⟩
  · have HD2 : Hid (hearFrame c (⟨fa, fk, fp, ns, (nr : Nat), info⟩ : Fr) s = hearLeaving c (⟨fa, fk, fp, ns, (nr : Nat), info⟩ : Fr) s) := hide (by rw [hdef, if_neg (by omega), if_neg (by omega), if_neg (by omega), if_pos e])
    rw [e] at c7
    clear e hdef
    go_enter Tryz.func121, Tryz.ntmps121
    go_wp2_with fail
    refine (unhide K3 _ (unhide HB)).mono ?_
    rintro e w1 ⟨rfl, own2, h3, u3⟩
    have HR := hide (And.intro h3 (Upd.t (T := (Value.slice fq info.length fc).ownBlock) (Upd.of (w := w) (unhide HB) u3)))
    clear h3 u3 K3
    go_wp2
    first | go_end0 | refine bodyPost_ret (results_none rfl _ _ _) rfl ?_
    rw [unhide HD2]
    exact ⟨rfl, _, (unhide HR).1, (unhide HR).2⟩
  · have HD2 : Hid (hearFrame c (⟨fa, fk, fp, ns, (nr : Nat), info⟩ : Fr) s = hearBroken c (⟨fa, fk, fp, ns, (nr : Nat), info⟩ : Fr) s) := hide (by rw [hdef, if_neg (by omega), if_neg (by omega), if_neg (by omega), if_neg (by omega), if_pos e])
    rw [e] at c7
    clear e hdef
    go_enter Tryz.func121, Tryz.ntmps121
    go_wp2_with fail
    refine (unhide K4 _ (unhide HB)).mono ?_
    rintro e w1 ⟨rfl, own2, h3, u3⟩
    have HR := hide (And.intro h3 (UpdT.of (w := w) (unhide HB) u3))
    clear h3 u3 K4
    go_wp2
    first | go_end0 | refine bodyPost_ret (results_none rfl _ _ _) rfl ?_
    rw [unhide HD2]
    exact ⟨rfl, _, (unhide HR).1, (unhide HR).2⟩
end
end Go.Proofs.YtkalonhalhdlaaaGreatDoor

/-
  What one call of Hear does.
-/
namespace Go.Proofs.YtkalonhalhdlaaaGreatDoor
open Go.RowKit
/-- A call that answers with an error's number has made of a station the station s'. -/
def Ans (n : Nat) (i b : Nat) (c : Cfg) (s' : St) (cl : Bool) (own : Nat → Nat) (w : World) (e : Ending) (w' : World) : Prop :=
  e = .returned (.int .i64 n) ∧ ∃ own', Stn w' own' i b c s' cl ∧ Upd i own own' w w'
section
variable {w W : World} {own : Nat → Nat} {i b : Nat} {c : Cfg} {s : St} {cl : Bool} {ch : Nat} {q cm o ev : Value} {qe ce oe : List Value}
theorem SAt.ans (h : SAt w own i b c s cl ch q cm o ev qe ce oe) (n : Nat) {w' : World} (hb : Below w.heap.size w w') : Ans n i b c s cl own w (.returned (.int .i64 n)) w' := ⟨rfl, own, ⟨_, _, _, _, _, _, _, _, h.later hb⟩, (Upd.refl i own w').of hb⟩
theorem ctlF_nr (m k : Nat) (hm : m = 8 ∨ m = 128) (l : List UInt8) : ∃ nr : Nat, (ctlF m k l).nr = nr ∧ nr < m := by
  have h0 : (l.getD 0 0).toNat < 256 := (l.getD 0 0).toNat_lt
  have h1 : (l.getD 1 0).toNat < 256 := (l.getD 1 0).toNat_lt
  by_cases h4 : 4 < k
  · have e : (ctlF m k l).nr = ((0 : Nat) : Int) := by simp only [ctlF, h4, if_true]; rfl
    exact ⟨0, e, by omega⟩
  · by_cases h8 : m = 8
    · subst h8
      have e : (ctlF 8 k l).nr = (((l.getD 0 0).toNat / 32 : Nat) : Int) := by simp only [ctlF, h4, if_true, if_false]
      exact ⟨_, e, by omega⟩
    · have e : (ctlF m k l).nr = (((l.getD 1 0).toNat / 2 : Nat) : Int) := by simp only [ctlF, h4, h8, if_false]
      exact ⟨_, e, by omega⟩
theorem readL_nr (m : Nat) (hm : m = 8 ∨ m = 128) (l : List UInt8) : ∃ nr : Nat, (readL m l).2.nr = nr ∧ nr < m := by
  unfold readL
  dsimp only
  split
  · exact ⟨0, rfl, by omega⟩
  · split
    · exact ⟨0, rfl, by omega⟩
    · split
      · exact ⟨0, rfl, by omega⟩
      · exact ctlF_nr m _ hm _
end
end Go.Proofs.YtkalonhalhdlaaaGreatDoor

/-
  How much can be waiting to be sent: each call of a station.
-/
namespace Go.Proofs.YtkalonhalhdlaaaGreatDoor
open Go
section
variable {c : Cfg} {s t u : St} {lu : Bool}
theorem said_putR (f : Fr) (hk : f.k = 2 ∨ f.k = 3) : Lim c 1 0 0 lu lu s (putR c f s) := by
  obtain ⟨h1, h2, h3⟩ := (write_kinds c.m { f with a := (c.addr : Int) }).2.1 hk
  exact Lim.said (x := (writeL c.m { f with a := (c.addr : Int) }).2) rfl h1 h2 h3 rfl rfl rfl rfl rfl rfl
theorem said_putC (f : Fr) (hk : f.k = 2 ∨ f.k = 3) : Lim c 1 0 0 lu lu s (putC c f s) := by
  obtain ⟨h1, h2, h3⟩ := (write_kinds c.m { f with a := 4 - (c.addr : Int) }).2.1 hk
  exact Lim.said (x := (writeL c.m { f with a := 4 - (c.addr : Int) }).2) rfl h1 h2 h3 rfl rfl rfl rfl rfl rfl
theorem ready_two : ((ready c s : Nat) : Int) = 2 ∨ ((ready c s : Nat) : Int) = 3 := by unfold ready; split <;> omega
theorem answer_lim (p : Bool) : Lim c 1 0 0 lu lu s (answer c p s) := said_putR _ ready_two
/-- A frame without numbers goes out, and the queue is empty behind it. -/
theorem putU {m : Int} {f : Fr} (hk : 5 ≤ f.k) (ho : t.out = s.out ++ [(writeL m f).2]) (hq : t.queue = []) (hp : t.polling = false) (hc : t.came = s.came) (h2 : t.state ≠ 2 ∨ lu = true) : Lim c 1 0 0 lu lu s t := by
  obtain ⟨h1, h3⟩ := (write_kinds m f).2.2.2 hk
  exact Lim.reset ho h1 h3 hq hp hc h2
theorem respond_lim (h : s.ok c) (h2 : s.state ≠ 2) (k : Nat) (hk : 5 ≤ k) (p : Bool) : Lim c 1 0 0 lu lu s (respond c k p s) := by
  obtain ⟨q1, q2, _⟩ := h.down h2
  exact putU (m := c.m) (f := ⟨(c.addr : Int), k, p, 0, 0, []⟩) (show (5 : Int) ≤ k by omega) rfl q1 q2 rfl (.inl h2)
theorem report_lim (h : s.ok c) (h2 : s.state ≠ 2) (p : Bool) : Lim c 1 0 0 lu lu s (report c p s) := by
  obtain ⟨q1, q2, _⟩ := h.down h2
  exact putU (m := c.m) (f := ⟨(c.addr : Int), 9, p, 0, 0, List.replicate (repN c.m).toNat 0⟩) (show (5 : Int) ≤ 9 by decide) rfl q1 q2 rfl (.inl h2)
theorem ask_lim (k kd : Nat) (hk : k ≠ 2) (hkd : 5 ≤ kd) : Lim c 1 0 0 lu lu s (ask c k kd s) :=
  putU (m := c.m) (f := ⟨4 - (c.addr : Int), kd, true, 0, 0, []⟩) (show (5 : Int) ≤ kd by omega) rfl rfl rfl rfl (.inl hk)
theorem goDown_lim (e : Nat) : Lim c 0 0 0 lu lu s (goDown e s) := Lim.reset0 rfl rfl rfl rfl (.inl (show (0 : Nat) ≠ 2 by decide))
theorem comeUp_lim (e : Nat) : Lim c 0 0 0 true true s (comeUp e s) := Lim.reset0 rfl rfl rfl rfl (.inr rfl)
theorem accept_lim (p : Bool) (e : Nat) : Lim c 1 0 0 true true s (accept c p e s) :=
  putU (m := c.m) (f := ⟨(c.addr : Int), (7 : Nat), p, 0, 0, []⟩) (show (5 : Int) ≤ 7 by decide) rfl rfl rfl rfl (.inr rfl)
theorem agree_lim (p : Bool) : Lim c 1 0 0 lu lu s (agree c p s) :=
  putU (m := c.m) (f := ⟨(c.addr : Int), (7 : Nat), p, 0, 0, []⟩) (show (5 : Int) ≤ 7 by decide) rfl rfl rfl rfl (.inl (show (0 : Nat) ≠ 2 by decide))
theorem fallApart_lim (f : Fr) : Lim c 1 0 0 lu lu s (fallApart c f s) :=
  putU (m := c.m) (f := ⟨(c.addr : Int), 9, isCmd c f && f.p, 0, 0, List.replicate (repN c.m).toNat 0⟩) (show (5 : Int) ≤ 9 by decide) rfl rfl rfl rfl (.inl (show (4 : Nat) ≠ 2 by decide))
theorem callS_lim : Lim c 1 0 0 lu lu s (callS c (tell 2 s)) :=
  putU (m := c.m) (f := ⟨4 - (c.addr : Int), (5 : Nat), true, 0, 0, []⟩) (show (5 : Int) ≤ 5 by decide) rfl rfl rfl rfl (.inl (show (1 : Nat) ≠ 2 by decide))
theorem sendNext_puts : (sendNext c s).out = s.out ++ [(writeL c.m ⟨4 - (c.addr : Int), 1, false, s.vs, s.vr, s.queue.getD (ahead c s s.vs) []⟩).2] := by unfold sendNext upVm; split <;> rfl
theorem sendNext_came : (sendNext c s).came = s.came := by unfold sendNext upVm; split <;> rfl
theorem sendNext_rejected : (sendNext c s).rejected = s.rejected := by unfold sendNext upVm; split <;> rfl
theorem sendNext_lim (hc : c.ok) (h : s.ok c) (hm : maySend c s = true) : Lim c 0 0 0 lu lu s (sendNext c s) := by
  obtain ⟨_, g2, _⟩ := maySend_iff.1 hm
  obtain ⟨k1, k2⟩ := (write_kinds c.m ⟨4 - (c.addr : Int), 1, false, s.vs, s.vr, s.queue.getD (ahead c s s.vs) []⟩).1 rfl
  have ho := sendNext_puts (c := c) (s := s)
  generalize (writeL c.m ⟨4 - (c.addr : Int), 1, false, s.vs, s.vr, s.queue.getD (ahead c s s.vs) []⟩).2 = x at *
  refine ⟨?_, ?_, ?_⟩
  · unfold L1
    rw [ho, sendNext_queue, sendNext_ahead hc h hm, sendNext_polling, List.length_append]
    simp only [List.length_cons, List.length_nil]
    omega
  · unfold L2
    rw [ho, sendNext_came, sendNext_state, sendNext_rejected, rejs_snoc]
    simp [k2]
  · unfold L3
    have hq : s.queue ≠ [] := fun e => by rw [e] at g2; simp at g2
    rw [ho, sendNext_queue, aft_snoc, lastU_snoc]
    unfold hit nxt
    by_cases hi : kI x = true
    · by_cases hl : lastU false s.out = true
      · simp [hi, k1, hl, hq]
      · simp [hi, k1, hl]
    · simp [hi, k1]
theorem pumpN_lim (hc : c.ok) (n : Nat) : ∀ {s : St}, s.ok c → s.state = 2 → Lim c 0 0 0 lu lu s (pumpN c n s) := by
  induction n with
  | zero => exact fun _ _ => Lim.refl
  | succ n ih =>
    intro s h h2
    unfold pumpN
    split
    · rename_i hm
      exact (sendNext_lim hc h hm).trans (ih (sendNext_ok hc h hm h2) (sendNext_state.trans h2))
    · exact Lim.refl
theorem setTimer_lim : Lim c 0 0 0 lu lu s (setTimer c s) := by
  unfold setTimer
  split
  · exact Lim.quiet rfl rfl rfl rfl rfl rfl rfl
  · split
    · exact Lim.quiet rfl rfl rfl rfl rfl rfl rfl
    · exact Lim.refl
theorem pump_lim (hc : c.ok) (h : s.ok c) (h2 : s.state = 2) : Lim c 0 0 0 lu lu s (pump c s) := by
  unfold pump
  split
  · exact Lim.refl
  · exact (pumpN_lim hc 16 h h2).trans setTimer_lim
theorem acknowledge_lim (hc : c.ok) (h : s.ok c) {nr : Nat} (hn : nr < c.m) (hg : isGood c s nr = true) : Lim c 0 0 0 lu lu s (acknowledge c nr s) := by
  have hg' : ahead c s nr ≤ ahead c s s.vm := by simpa [isGood] using hg
  unfold acknowledge
  split
  · exact Lim.refl
  · rename_i h0
    generalize ht : ({ s with vs := if ahead c s s.vs < ahead c s nr then nr else s.vs, queue := s.queue.drop (ahead c s nr), va := nr, timer := if s.polling then s.timer else 0 } : St) = t
    have hta : t.va = nr := by rw [← ht]
    have hts : t.vs = if ahead c s s.vs < ahead c s nr then nr else s.vs := by rw [← ht]
    have htq : t.queue = s.queue.drop (ahead c s nr) := by rw [← ht]
    have hto : t.out = s.out := by rw [← ht]
    have htp : t.polling = s.polling := by rw [← ht]
    have htc : t.came = s.came := by rw [← ht]
    have htt : t.state = s.state := by rw [← ht]
    have htr : t.rejected = s.rejected := by rw [← ht]
    refine ⟨?_, ?_, ?_⟩
    · unfold L1
      rw [hto, htp, htq, List.length_drop, hts]
      split
      · have : ahead c t nr = 0 := by rw [← hta]; exact ahead_va hc (by rw [hta]; exact hn)
        omega
      · rw [ahead_from hc h.va hn h.vs (by omega) t hta]
        omega
    · unfold L2; rw [hto, htc, htt, htr]; exact Nat.le_refl _
    · unfold L3; rw [hto, htq]
      split
      · rename_i hh
        have hne : s.queue ≠ [] := fun e => hh.2 (by rw [e]; simp)
        simp [hh.1, hne]
      · omega
theorem hearReady_lim (hc : c.ok) (h : s.ok c) (f : Fr) (hn : s.va = f.nr.toNat) {e : Nat} (he : f.k = 4 → 15 ≤ e) : Lim c (1 + e) 0 0 lu lu s (hearReady c f s) := by
  have hv := h.vmw
  have hw := hc.win15
  have hs := h.svs
  have h0 : ahead c s f.nr.toNat = 0 := by rw [← hn]; exact ahead_va hc h.va
  have hL : ∀ t : St, t.out = s.out → t.queue = s.queue → t.came = s.came → t.state = s.state → t.rejected = s.rejected → L2 c t lu ≤ L2 c s lu ∧ L3 t ≤ L3 s := fun t ho hq hcm hst hr => by
    unfold L2 L3; rw [ho, hcm, hst, hr, hq]; exact ⟨Nat.le_refl _, Nat.le_refl _⟩
  obtain ⟨v, hv'⟩ : ∃ v, (if f.k = 4 then f.nr.toNat else s.vs) = v := ⟨_, rfl⟩
  have hva : s.queue.length - ahead c s v ≤ s.queue.length - ahead c s s.vs + e := by
    rw [← hv']
    split
    · rename_i h4
      have := he h4
      rw [h0]; omega
    · omega
  obtain ⟨q, hq⟩ : ∃ q, (f.k == 3) = q := ⟨_, rfl⟩
  have s1 : Lim c e 0 0 lu lu s { s with peer := q, vs := v } := by
    obtain ⟨g1, g2⟩ := hL { s with peer := q, vs := v } rfl rfl rfl rfl rfl
    refine ⟨?_, g1, g2⟩
    have e1 : L1 c { s with peer := q, vs := v } = s.out.length + (s.queue.length - ahead c s v) + (if s.polling then 15 else 0) := rfl
    rw [e1]
    unfold L1
    omega
  unfold hearReady
  dsimp only
  rw [hv', hq]
  split
  · exact s1.mono (by omega) (Nat.le_refl _) (Nat.le_refl _)
  · split
    · exact (s1.trans (answer_lim true)).mono (by omega) (Nat.le_refl _) (Nat.le_refl _)
    · split
      · rename_i hp
        have hp' : s.polling = true := hp
        obtain ⟨g1, g2⟩ := hL { s with peer := q, vs := f.nr.toNat, polling := false, timer := 0 } rfl rfl rfl rfl rfl
        refine ⟨?_, g1, g2⟩
        have e1 : L1 c { s with peer := q, vs := f.nr.toNat, polling := false, timer := 0 } = s.out.length + (s.queue.length - ahead c s f.nr.toNat) + 0 := rfl
        refine Nat.le_trans (Nat.le_of_eq e1) ?_
        unfold L1
        rw [h0, hp']
        simp only [if_true]
        omega
      · exact s1.mono (by omega) (Nat.le_refl _) (Nat.le_refl _)
theorem hearMsg_lim (f : Fr) (hlu : lu = false) (h2 : s.state = 2) : Lim c 1 0 0 lu lu s (hearMsg c f s) := by
  unfold hearMsg
  split
  · exact answer_lim _
  · rename_i hh
    have hroom : s.came.length < c.room := by
      unfold heldUp at hh
      simp at hh
      omega
    split
    · have h1 : Lim c 0 0 0 lu lu s { s with vr := follow c s.vr, came := s.came ++ [f.info], rejected := false } := by
        refine ⟨Nat.le_refl _, ?_, Nat.le_refl _⟩
        show rejs s.out + (c.room - (s.came ++ [f.info]).length) + (if s.state = 2 ∧ false = false ∧ lu = false then 1 else 0) ≤ L2 c s lu + 0
        unfold L2
        rw [List.length_append, h2, hlu]
        simp
        omega
      exact (h1.trans (answer_lim f.p)).mono (by omega) (Nat.le_refl _) (Nat.le_refl _)
    · split
      · rename_i hr
        obtain ⟨h1, h3⟩ := (write_kinds c.m ⟨(c.addr : Int), 4, f.p, 0, s.vr, []⟩).2.2.1 rfl
        have ho : (putR c ⟨0, 4, f.p, 0, s.vr, []⟩ { s with rejected := true }).out = s.out ++ [(writeL c.m ⟨(c.addr : Int), 4, f.p, 0, s.vr, []⟩).2] := rfl
        generalize (writeL c.m ⟨(c.addr : Int), 4, f.p, 0, s.vr, []⟩).2 = x at *
        refine ⟨?_, ?_, ?_⟩
        · unfold L1
          rw [ho, List.length_append]
          show s.out.length + 1 + (s.queue.length - ahead c s s.vs) + (if s.polling then 15 else 0) ≤ _
          omega
        · unfold L2
          rw [ho, rejs_snoc]
          show rejs s.out + _ + (c.room - s.came.length) + (if s.state = 2 ∧ true = false ∧ lu = false then 1 else 0) ≤ _
          rw [h2, hr, hlu]
          simp
          split <;> omega
        · unfold L3
          rw [ho, aft_snoc, lastU_snoc]
          show _ + (if _ ∧ s.queue ≠ [] then 1 else 0) ≤ _
          simp [hit, nxt, h1, h3]
      · split
        · exact answer_lim _
        · exact Lim.refl.mono (Nat.zero_le _) (Nat.le_refl _) (Nat.le_refl _)
theorem hearNum_lim (hc : c.ok) (h : s.ok c) (h2 : s.state = 2) (f : Fr) (hn : f.nr.toNat < c.m) (hlu : f.k = 1 → lu = false) {e : Nat} (he : f.k = 4 → 15 ≤ e) : Lim c (1 + e) 0 0 lu lu s (hearNum c f s) := by
  unfold hearNum
  split
  · exact (fallApart_lim f).mono (by omega) (Nat.le_refl _) (Nat.le_refl _)
  · rename_i hg
    have hg' : isGood c s f.nr.toNat = true := eq_true_of_ne_false hg
    have ha := acknowledge_ok hc h h2 hn hg'
    have hl := acknowledge_lim (lu := lu) hc h hn hg'
    have hs : (acknowledge c f.nr.toNat s).state = 2 := acknowledge_state.trans h2
    split
    · rename_i h1
      exact ((hl.trans (hearMsg_lim f (hlu h1) hs)).trans (pump_lim hc (hearMsg_ok hc ha hs f) ((hearMsg_state f).trans hs))).mono (by omega) (Nat.le_refl _) (Nat.le_refl _)
    · exact ((hl.trans (hearReady_lim hc ha f (acknowledge_va hc h hn) he)).trans (pump_lim hc (hearReady_ok hc ha hs f (acknowledge_va hc h hn)) ((hearReady_state f).trans hs))).mono (by omega) (Nat.le_refl _) (Nat.le_refl _)
theorem hearUp_lim (hc : c.ok) (h : s.ok c) {f : Fr} (h2 : s.state = 2 ∨ f.k = 5 ∨ f.k = 6 ∨ f.k = 8) (hn : f.nr.toNat < c.m) (hlu : f.k = 1 → lu = false) (hlt : 5 ≤ f.k → lu = true) {e : Nat} (he : f.k = 4 → 15 ≤ e) : Lim c (1 + e) 0 0 lu lu s (hearUp c f s) := by
  unfold hearUp
  split
  · rename_i h5
    have := hlt (by omega)
    subst this
    exact (accept_lim _ _).mono (by omega) (Nat.le_refl _) (Nat.le_refl _)
  · split
    · exact (agree_lim _).mono (by omega) (Nat.le_refl _) (Nat.le_refl _)
    · split
      · exact (goDown_lim _).mono (by omega) (Nat.le_refl _) (Nat.le_refl _)
      · split
        · exact callS_lim.mono (by omega) (Nat.le_refl _) (Nat.le_refl _)
        · split
          · exact hearNum_lim hc h (by omega) f hn hlu he
          · exact Lim.refl.mono (Nat.zero_le _) (Nat.le_refl _) (Nat.le_refl _)
theorem hearFrame_lim (hc : c.ok) (h : s.ok c) (f : Fr) (hn : f.nr.toNat < c.m) (hlu : f.k = 1 → lu = false) (hlt : 5 ≤ f.k → lu = true) {e : Nat} (he : f.k = 4 → 15 ≤ e) : Lim c (1 + e) 0 0 lu lu s (hearFrame c f s) := by
  have idle : Lim c (1 + e) 0 0 lu lu s s := Lim.refl.mono (Nat.zero_le _) (Nat.le_refl _) (Nat.le_refl _)
  have resp : s.state ≠ 2 → ∀ k p, 5 ≤ k → Lim c (1 + e) 0 0 lu lu s (respond c k p s) := fun h2 k p hk => (respond_lim h h2 k hk p).mono (by omega) (Nat.le_refl _) (Nat.le_refl _)
  unfold hearFrame
  split
  · rename_i hst
    unfold hearDown
    split
    · have := hlt (by omega)
      subst this
      exact (accept_lim _ _).mono (by omega) (Nat.le_refl _) (Nat.le_refl _)
    · split
      · exact resp (by omega) _ _ (by omega)
      · split
        · split
          · exact resp (by omega) _ _ (by omega)
          · exact idle
        · exact idle
  · split
    · unfold hearCalling
      split
      · exact resp (by omega) _ _ (by omega)
      · split
        · exact resp (by omega) _ _ (by omega)
        · split
          · rename_i h7
            have := hlt (by omega)
            subst this
            exact (comeUp_lim _).mono (Nat.zero_le _) (Nat.le_refl _) (Nat.le_refl _)
          · split
            · exact (goDown_lim _).mono (Nat.zero_le _) (Nat.le_refl _) (Nat.le_refl _)
            · exact idle
    · split
      · rename_i h2
        exact hearUp_lim hc h (.inl h2) hn hlu hlt he
      · split
        · unfold hearLeaving
          split
          · exact resp (by omega) _ _ (by omega)
          · split
            · exact resp (by omega) _ _ (by omega)
            · split
              · split
                · exact (goDown_lim _).mono (Nat.zero_le _) (Nat.le_refl _) (Nat.le_refl _)
                · exact idle
              · exact idle
        · split
          · unfold hearBroken
            split
            · rename_i hk
              exact hearUp_lim hc h (.inr hk) hn hlu hlt he
            · split
              · split
                · exact (report_lim h (by omega) _).mono (by omega) (Nat.le_refl _) (Nat.le_refl _)
                · exact idle
              · exact idle
          · exact idle
theorem hearS_lim (hc : c.ok) (h : s.ok c) (b : Msg) : Lim c (1 + if kR b then 15 else 0) (hit lu b) 0 lu (nxt lu b) s (hearS c b s).2 := by
  have h0 := Lim.next (c := c) (s := s) (lu := lu) b
  obtain ⟨e, he⟩ : ∃ e, (if kR b then 15 else 0) = e := ⟨_, rfl⟩
  rw [he]
  unfold hearS
  split
  · exact h0.mono (Nat.zero_le _) (Nat.le_refl _) (Nat.le_refl _)
  · rename_i hr
    have hr' : (readL c.m b).1 = 0 := by simpa using hr
    obtain ⟨k1, k2, k3⟩ := read_kinds c.m b hr'
    obtain ⟨nr, e1, e2⟩ := readL_nr c.m hc.m b
    split
    · refine (h0.trans (hearFrame_lim hc h _ (by rw [e1]; simpa using e2) (fun h1 => ?_) (fun h5 => ?_) (e := e) (fun h4 => ?_))).mono (by omega) (Nat.le_refl _) (Nat.le_refl _)
      · have := k1 h1
        have hu : kU b = false := by
          cases hU : kU b
          · rfl
          · rw [kU_kI hU] at this; exact absurd this (by decide)
        unfold nxt
        simp [hu, this]
      · unfold nxt
        simp [k3 h5]
      · rw [← he, k2 h4]; simp
    · exact h0.mono (Nat.zero_le _) (Nat.le_refl _) (Nat.le_refl _)
theorem connectS_lim : Lim c 1 0 0 lu lu s (connectS c s).2 := by
  unfold connectS
  split
  · exact ask_lim 1 5 (by decide) (by decide)
  · exact Lim.refl.mono (Nat.zero_le _) (Nat.le_refl _) (Nat.le_refl _)
theorem leaveS_lim : Lim c 1 0 0 lu lu s (leaveS c s).2 := by
  unfold leaveS
  split
  · exact Lim.refl.mono (Nat.zero_le _) (Nat.le_refl _) (Nat.le_refl _)
  · exact ask_lim 3 6 (by decide) (by decide)
theorem change_lim (was : Bool) : Lim c 1 0 0 lu lu s (change c was s) := by
  unfold change
  split
  · exact answer_lim _
  · exact Lim.refl.mono (Nat.zero_le _) (Nat.le_refl _) (Nat.le_refl _)
theorem busyS_lim (on : Bool) : Lim c 1 0 0 lu lu s (busyS c on s) :=
  by
  have h1 : Lim c 0 0 0 lu lu s { s with busy := on } := Lim.quiet rfl rfl rfl rfl rfl rfl rfl
  exact (h1.trans (change_lim (heldUp c s))).mono (by omega) (Nat.le_refl _) (Nat.le_refl _)
theorem takenS_lim (hc : c.ok) : Lim c 1 16 0 lu lu s (takenS c s) := by
  have h1 : Lim c 0 16 0 lu lu s { s with came := [] } := by
    refine ⟨Nat.le_refl _, ?_, Nat.le_refl _⟩
    have := hc.room16
    show rejs s.out + (c.room - 0) + (if s.state = 2 ∧ s.rejected = false ∧ lu = false then 1 else 0) ≤ L2 c s lu + 16
    unfold L2
    omega
  exact (h1.trans (change_lim (heldUp c s))).mono (by omega) (Nat.le_refl _) (Nat.le_refl _)
theorem sendS_lim (hc : c.ok) (h : s.ok c) (b : Msg) : Lim c 1 0 1 lu lu s (sendS c b s).2 := by
  have idle : Lim c 1 0 1 lu lu s s := Lim.refl.mono (Nat.zero_le _) (Nat.le_refl _) (Nat.zero_le _)
  unfold sendS
  split
  · exact idle
  · rename_i h2
    have h2' : s.state = 2 := by omega
    split
    · exact idle
    · split
      · exact idle
      · rename_i h32 h20
        have h1 : Lim c 1 0 1 lu lu s { s with queue := s.queue ++ [b] } := by
          refine ⟨?_, Nat.le_refl _, ?_⟩
          · show s.out.length + ((s.queue ++ [b]).length - ahead c s s.vs) + (if s.polling then 15 else 0) ≤ _
            unfold L1
            rw [List.length_append]
            simp only [List.length_cons, List.length_nil]
            omega
          · show aft false s.out + (if lastU false s.out = true ∧ (s.queue ++ [b]) ≠ [] then 1 else 0) ≤ _
            unfold L3
            split <;> split <;> omega
        have hok : St.ok c { s with queue := s.queue ++ [b] } := by
          refine ⟨h.state, h.vs, h.va, h.vr, h.vm, h.svs, ?_, h.vmw, ?_, ?_, h.timer, h.tim0, h.tries, h.came, fun hh => absurd h2' hh⟩
          · show ahead c s s.vm ≤ (s.queue ++ [b]).length
            have := h.svm
            rw [List.length_append]; omega
          · show (s.queue ++ [b]).length ≤ 20
            rw [List.length_append]
            simp only [List.length_cons, List.length_nil]; omega
          · intro x hx
            rcases List.mem_append.1 hx with hx | hx
            · exact h.q32 x hx
            · simp at hx; rw [hx]; omega
        exact h1.trans (pump_lim hc hok h2')
theorem runOut_lim (h : s.ok c) : Lim c 16 0 0 lu lu s (runOut c s) := by
  unfold runOut
  split
  · exact (goDown_lim _).mono (by omega) (Nat.le_refl _) (Nat.le_refl _)
  · split
    · rename_i hst
      obtain ⟨q1, q2, _⟩ := h.down (by omega)
      have h1 : Lim c 1 0 0 lu lu s (putC c ⟨0, 5, true, 0, 0, []⟩ { s with tries := s.tries + 1, timer := c.tim }) :=
        putU (m := c.m) (f := ⟨4 - (c.addr : Int), 5, true, 0, 0, []⟩) (show (5 : Int) ≤ 5 by decide) rfl q1 q2 rfl (.inl (show s.state ≠ 2 by omega))
      exact h1.mono (by omega) (Nat.le_refl _) (Nat.le_refl _)
    · split
      · rename_i hst
        obtain ⟨q1, q2, _⟩ := h.down (by omega)
        have h1 : Lim c 1 0 0 lu lu s (putC c ⟨0, 6, true, 0, 0, []⟩ { s with tries := s.tries + 1, timer := c.tim }) :=
          putU (m := c.m) (f := ⟨4 - (c.addr : Int), 6, true, 0, 0, []⟩) (show (5 : Int) ≤ 6 by decide) rfl q1 q2 rfl (.inl (show s.state ≠ 2 by omega))
        exact h1.mono (by omega) (Nat.le_refl _) (Nat.le_refl _)
      · split
        · have h1 : Lim c 15 0 0 lu lu s { s with tries := s.tries + 1, timer := c.tim, polling := true } := by
            refine ⟨?_, Nat.le_refl _, Nat.le_refl _⟩
            show s.out.length + (s.queue.length - ahead c s s.vs) + 15 ≤ _
            unfold L1
            omega
          exact h1.trans (said_putC ⟨0, ready c s, true, 0, s.vr, []⟩ ready_two)
        · have h1 : Lim c 0 0 0 lu lu s { s with tries := s.tries + 1, timer := c.tim } := Lim.quiet rfl rfl rfl rfl rfl rfl rfl
          exact h1.mono (Nat.zero_le _) (Nat.le_refl _) (Nat.le_refl _)
theorem tickS_lim (h : s.ok c) : Lim c 16 0 0 lu lu s (tickS c s) := by
  unfold tickS
  split
  · exact Lim.refl.mono (Nat.zero_le _) (Nat.le_refl _) (Nat.le_refl _)
  · split
    · have h0 : St.ok c { s with timer := 0 } := ⟨h.state, h.vs, h.va, h.vr, h.vm, h.svs, h.svm, h.vmw, h.q20, h.q32, Nat.zero_le _, fun _ => rfl, h.tries, h.came, h.down⟩
      have h1 : Lim c 0 0 0 lu lu s { s with timer := 0 } := Lim.quiet rfl rfl rfl rfl rfl rfl rfl
      exact (h1.trans (runOut_lim h0)).mono (by omega) (Nat.le_refl _) (Nat.le_refl _)
    · have h1 : Lim c 0 0 0 lu lu s { s with timer := s.timer - 1 } := Lim.quiet rfl rfl rfl rfl rfl rfl rfl
      exact h1.mono (Nat.zero_le _) (Nat.le_refl _) (Nat.le_refl _)
/-- The measure. -/
def Phi (c : Cfg) (s : St) : Nat := L1 c s + 15 * L2 c s false + 15 * L3 s
/-- What a list of frames weighs. -/
def heft (L : List Msg) : Nat := L.length + 15 * rejs L + 15 * aft false L
theorem Lim.phi {n r k : Nat} (h : Lim c n r k false false s t) : Phi c t ≤ Phi c s + n + 15 * r + 15 * k := by
  have := h.a; have := h.b; have := h.c
  unfold Phi; omega
theorem heft_len (L : List Msg) : L.length ≤ heft L := by unfold heft; omega
theorem heft_sub {M L : List Msg} (h : M.Sublist L) : heft M ≤ heft L := by
  have h1 := h.length_le
  have h2 : rejs M ≤ rejs L := h.countP_le
  have h3 := aft_sub h false
  unfold heft; omega
theorem heft_out : heft s.out ≤ Phi c s := by unfold heft Phi L1 L2 L3; omega
/-- What is waiting is handed over. -/
theorem out_phi : Phi c { s with out := [] } + heft s.out ≤ Phi c s := by
  have e1 : L1 c { s with out := [] } + s.out.length = L1 c s := by
    show 0 + (s.queue.length - ahead c s s.vs) + (if s.polling then 15 else 0) + s.out.length = _
    unfold L1; omega
  have e2 : L2 c { s with out := [] } false + rejs s.out = L2 c s false := by
    show 0 + (c.room - s.came.length) + (if s.state = 2 ∧ s.rejected = false ∧ false = false then 1 else 0) + rejs s.out = _
    unfold L2; omega
  have e3 : L3 { s with out := [] } + aft false s.out ≤ L3 s := by
    show 0 + (if false = true ∧ s.queue ≠ [] then 1 else 0) + aft false s.out ≤ _
    unfold L3; simp
  unfold Phi heft
  omega
theorem fresh_phi (hc : c.ok) : Phi c St.fresh ≤ 255 := by
  have := hc.room16
  have e1 : L1 c St.fresh = 0 := by show 0 + (0 - _) + 0 = 0; omega
  have e2 : L2 c St.fresh false = c.room := by show 0 + (c.room - 0) + (if (0 : Nat) = 2 ∧ _ ∧ _ then 1 else 0) = c.room; simp
  have e3 : L3 St.fresh = 0 := rfl
  unfold Phi
  omega
end
end Go.Proofs.YtkalonhalhdlaaaGreatDoor

/-
  A hunter in the document's words (it keeps all bits that it has), and that the hunter of plain words (LPure) tells the same; what it tells of frames as they stand on the line, and of a line of which one bit is another one.
-/
namespace Go.Proofs.YtkalonhalhdlaaaGreatDoor
/-- The number of bits, the lowest first. -/
def val : List Bool → Nat
  | [] => 0
  | b :: r => (if b then 1 else 0) + 2 * val r
/-- A hunter in the document's words; the count goes no further than 7. -/
structure IH where
  on : Bool
  c : Nat
  has : List Bool
def capLen (n : Nat) : Nat := if n < 535 then n else 535 + (n - 535) % 8
/-- The bytes that are held are the first of the bits. -/
def Rep (h : HS) (has : List Bool) : Prop :=
  h.len = capLen has.length ∧ ∀ i, i < 66 → 8 * i ≤ has.length → (h.held.getD i 0).toNat / 2 ^ (8 - min 8 (has.length - 8 * i)) = val ((has.drop (8 * i)).take 8)
def Sim (h : HS) (s : IH) : Prop := h.on = s.on ∧ h.ones = s.c ∧ s.c ≤ 7 ∧ h.held.length = 66 ∧ (s.on = true → Rep h s.has) ∧ (s.on = false → s.has = [])
end Go.Proofs.YtkalonhalhdlaaaGreatDoor
