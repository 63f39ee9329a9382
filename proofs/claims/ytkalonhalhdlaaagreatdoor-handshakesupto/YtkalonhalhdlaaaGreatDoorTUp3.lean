/-
  What up of the document's station does: frames with good numbers.
-/
import Derived.Test.YtkalonhalhdlaaaGreatDoorG16
import Derived.Test.YtkalonhalhdlaaaGreatDoorG06
namespace Go.Proofs.YtkalonhalhdlaaaGreatDoor
open Go.RowKit
section
variable {w : World} {own : Nat → Nat} {i b : Nat} {c : Cfg} {s : St} {cl : Bool} {q cm o ev : Value} {ce oe : List Value}
theorem message_ref (h : TAt w own i b c s cl q cm o ev ce oe) (fa fk : Int) (fp : Bool) (ns nr : Int) (info : Msg) (fq : Option Addr) (fc : Nat) (hv : w.ownsRow 0 5 1 (.slice fq info.length fc) info.length (Lib.byteCells info)) (hfree : ∀ k, (Value.slice fq info.length fc).ownBlock = some k → own k = 0 ∧ k ≠ 0) (hl : s.out.length ≤ 2199023255552) :
    Calls Tryz.prog 149 #[.pointer (some ⟨b, 0, none⟩), .agg #[.int .i64 fa, .int .i64 fk, .bool fp, .int .i64 ns, .int .i64 nr, .slice fq info.length fc]] w fun e w' => TDidT (Value.slice fq info.length fc).ownBlock i b c (hearMsg c (⟨fa, fk, fp, ns, nr, info⟩ : Fr) s) cl own w e w' := by
  have hdef : hearMsg c (⟨fa, fk, fp, ns, nr, info⟩ : Fr) s = if heldUp c s then answer c fp s else if ns = s.vr then answer c fp { s with vr := follow c s.vr, came := s.came ++ [info], rejected := false } else if s.rejected = false then putR c ⟨0, 4, fp, 0, s.vr, []⟩ { s with rejected := true } else if fp then answer c true s else s := rfl
  rw [hdef]
  cases hhu : heldUp c s with
  | true =>
    rw [if_pos rfl]
    exact (msg_held h fa fk fp ns nr info fq fc hl hhu).mono (fun e w' hq => hq.t)
  | false =>
    rw [if_neg (by simp)]
    by_cases hns : ns = s.vr
    · rw [if_pos hns]
      subst hns
      exact msg_next h fa fk fp nr info fq fc hl hv hfree hhu
    · rw [if_neg hns]
      have tns : (ns == (s.vr : Int)) = false := by simp [hns]
      cases hr : s.rejected with
      | false =>
        rw [if_pos rfl]
        exact (msg_rej h fa fk fp ns nr info fq fc hl tns hr hhu).mono (fun e w' hq => hq.t)
      | true =>
        rw [if_neg (by simp)]
        cases fp with
        | true =>
          rw [if_pos rfl]
          exact (msg_poll h fa fk ns nr info fq fc hl tns hr hhu).mono (fun e w' hq => hq.t)
        | false =>
          rw [if_neg (by simp)]
          exact (msg_no h fa fk ns nr info fq fc tns hr hhu).mono (fun e w' hq => hq.t)
set_option maxHeartbeats 8000000 in
set_option maxRecDepth 100000 in
theorem upg_m_nz (h : TAt w own i b c s cl q cm o ev ce oe) (hok : s.ok c) (h2 : s.state = 2) (fa : Int) (fp cm0 : Bool) (fns : Int) (n : Nat) (hn : n < c.m) (info : Msg) (fq : Option Addr) (fc : Nat) (hgood : ahead c s n ≤ ahead c s s.vm) (hA : ¬ ahead c s s.vs < ahead c s n) (hB : ahead c s n = 0) (hv : w.ownsRow 0 5 1 (.slice fq info.length fc) info.length (Lib.byteCells info)) (hfree : ∀ k, (Value.slice fq info.length fc).ownBlock = some k → own k = 0 ∧ k ≠ 0) (hl : s.out.length + 32 ≤ 2199023255552) :
    Calls Tryz.prog 126 #[.pointer (some ⟨b, 0, none⟩), .agg #[.int .i64 fa, .int .i64 1, .bool fp, .int .i64 fns, .int .i64 (n : Nat), .slice fq info.length fc], .bool cm0] w fun e w' => TDidT (Value.slice fq info.length fc).ownBlock i b c (pump c (hearMsg c (⟨fa, 1, fp, fns, (n : Nat), info⟩ : Fr) (acknowledge c n s))) cl own w e w' := by
  have HACK := hide (ack_ref h.cok hok hn)
  have HOK := hide hok
  have HGD : Hid (isGood c s n = true) := hide (by unfold isGood; exact decide_eq_true hgood)
  have hxq : ahead c s n ≤ s.queue.length := Nat.le_trans hgood hok.svm
  have hlt := h.lt
  have hn0 := h.new0 w.heap.size (Nat.le_refl _)
  have hA0 := alloc1_a w (.cells #[.int .i64 fa, .int .i64 1, .bool fp, .int .i64 fns, .int .i64 (n : Nat), .slice fq info.length fc] 30)
  have hbA := (Below.refl w.heap.size w).alloc (Nat.le_refl _) (.cells #[.int .i64 fa, .int .i64 1, .bool fp, .int .i64 fns, .int .i64 (n : Nat), .slice fq info.length fc] 30)
  go_enter Tryz.func126, Tryz.ntmps126
  go_upto_region 1 with fail
  generalize w.alloc (.cells #[.int .i64 fa, .int .i64 1, .bool fp, .int .i64 fns, .int .i64 (n : Nat), .slice fq info.length fc] 30) = W0 at *
  have h0 := h.later hbA
  have k14 := fun N => away_ref (h0.drewN N) s.va n h0.sok.va hn
  have hah : (n + c.m - s.va) % c.m = ahead c s n := rfl
  rw [hah] at k14
  obtain ⟨y0, y1, y2, y3, y4, y5⟩ := frBox hA0
  have c8 : W0.cell? ⟨b, 8, none⟩ = some (.int .i64 s.va) := h0.cell 8 rfl
  have H0 := hide h0
  have HA0 := hide hA0
  have HBA := hide hbA
  clear h0 hA0 hbA hah
  generalize hx : ahead c s n = x at *
  go_wp2_with fail
  go_quiet (first | (go_at_call 133; exact Calls.quiet_of (k14 _)))
  have hV := (unhide H0).drewN nq
  have hVb : Below w.heap.size w (W0.drewN nq) := below_drewN (unhide HBA) nq
  have hAV : (W0.drewN nq).heap[w.heap.size]? = some (.cells #[.int .i64 fa, .int .i64 1, .bool fp, .int .i64 fns, .int .i64 (n : Nat), .slice fq info.length fc] 30 (0, 0)) := unhide HA0
  clear H0 HA0 HBA k14 y0 y1 y2 y3 y4 y5 c8
  generalize W0.drewN nq = V at *
  have k15 := fun N => away_ref (hV.drewN N) s.va s.vm hV.sok.va hV.sok.vm
  have hah : (s.vm + c.m - s.va) % c.m = ahead c s s.vm := rfl
  rw [hah] at k15
  obtain ⟨y0, y1, y2, y3, y4, y5⟩ := frBox hAV
  have c8 : V.cell? ⟨b, 8, none⟩ = some (.int .i64 s.va) := hV.cell 8 rfl
  have c10 : V.cell? ⟨b, 10, none⟩ = some (.int .i64 s.vm) := hV.cell 10 rfl
  have H1 := hide hV
  have HAV := hide hAV
  have HVB := hide hVb
  clear hV hAV hVb hah
  generalize hy : ahead c s s.vm = y at *
  have hngt : ¬ (y : Int) < (x : Int) := by omega
  go_wp2_with fail
  go_quiet (first | (go_at_call 133; exact Calls.quiet_of (k15 _)))
  have hV := (unhide H1).drewN nq
  have hVb := below_drewN (unhide HVB) nq
  have hAV : (V.drewN nq).heap[w.heap.size]? = some (.cells #[.int .i64 fa, .int .i64 1, .bool fp, .int .i64 fns, .int .i64 (n : Nat), .slice fq info.length fc] 30 (0, 0)) := unhide HAV
  clear H1 HVB HAV k15 y0 y1 y2 y3 y4 y5 c8 c10
  generalize V.drewN nq = V2 at *
  have k18 := fun N => away_ref (hV.drewN N) s.va s.vs hV.sok.va hV.sok.vs
  have hah : (s.vs + c.m - s.va) % c.m = ahead c s s.vs := rfl
  rw [hah] at k18
  have c7 : V2.cell? ⟨b, 7, none⟩ = some (.int .i64 s.vs) := hV.cell 7 rfl
  have c8 : V2.cell? ⟨b, 8, none⟩ = some (.int .i64 s.va) := hV.cell 8 rfl
  have H1 := hide hV
  have HAV := hide hAV
  have HVB := hide hVb
  clear hV hAV hVb hah
  generalize hz : ahead c s s.vs = z at *
  go_wp2_with fail
  go_quiet (first | (go_at_call 133; exact Calls.quiet_of (k18 _)))
  have hV3 := (unhide H1).drewN nq
  have hVb3 := below_drewN (unhide HVB) nq
  have hAV3 : (V2.drewN nq).heap[w.heap.size]? = some (.cells #[.int .i64 fa, .int .i64 1, .bool fp, .int .i64 fns, .int .i64 (n : Nat), .slice fq info.length fc] 30 (0, 0)) := unhide HAV
  clear H1 HVB HAV k18 c7 c8
  generalize V2.drewN nq = V3 at *
  obtain ⟨y0, y1, y2, y3, y4, y5⟩ := frBox hAV3
  subst hB
  obtain ⟨p4, c4, hq4, hsl⟩ := hV3.lq.cut hxq
  rw [List.drop_zero] at hq4 hsl
  have hsl : ∀ W, (Instr.sliceAt 38 q (some (.int .i64 0)) none none).run Tryz.prog W = .ok (.slice p4 s.queue.length c4) W := hsl
  have c7 : V3.cell? ⟨b, 7, none⟩ = some (.int .i64 s.vs) := hV3.cell 7 rfl
  have c8 : V3.cell? ⟨b, 8, none⟩ = some (.int .i64 s.va) := hV3.cell 8 rfl
  have c11 : V3.cell? ⟨b, 11, none⟩ = some q := hV3.cell 11 rfl
  have c12 : V3.cell? ⟨b, 12, none⟩ = some (.int .i64 s.timer) := hV3.cell 12 rfl
  have c14 : V3.cell? ⟨b, 14, none⟩ = some (.bool s.polling) := hV3.cell 14 rfl
  skip
  have fz := hV3.fz
  have hne : ¬ w.heap.size = b := by omega
  have hne2 : ¬ b = w.heap.size := by omega
  have hBB : ¬ (0 < 0 ∧ s.polling = false) := fun hh => by omega
  have hK : Keeps (· = b) V3 ((V3.setCell ⟨b, 8, none⟩ (.int .i64 (n : Nat))).setCell ⟨b, 11, none⟩ (.slice p4 s.queue.length c4)) := (((Keeps.refl _ V3).setB 8 _).setB 11 _)
  have h5 := hV3.wroteL hK (((hV3.hd.va n).lq (.slice p4 s.queue.length c4)).as { s with vs := s.vs, va := n, queue := s.queue, timer := s.timer } rfl) hq4 Stays.same Stays.same (.inl ⟨rfl, rfl⟩) ⟨hV3.sok.state, hV3.sok.vs, hn, hV3.sok.vr, hV3.sok.vm, hV3.sok.q20, hV3.sok.q32, hV3.sok.timer, hV3.sok.tries, hV3.sok.came⟩
  have hack := unhide HACK
  rw [if_neg hA, if_neg hBB, List.drop_zero] at hack
  rw [← hack] at h5
  have hbx : ((V3.setCell ⟨b, 8, none⟩ (.int .i64 (n : Nat))).setCell ⟨b, 11, none⟩ (.slice p4 s.queue.length c4)).heap[w.heap.size]? = some (.cells #[.int .i64 fa, .int .i64 1, .bool fp, .int .i64 fns, .int .i64 (n : Nat), .slice fq info.length fc] 30 (0, 0)) := by
    rw [hK.block w.heap.size (Array.getElem?_eq_some_iff.1 hAV3).1 hne]
    exact hAV3
  have H5 := hide h5
  have HBX := hide hbx
  have HU5 := hide (Upd.of hVb3 (hV3.upd hK))
  have hv5 : ((V3.setCell ⟨b, 8, none⟩ (.int .i64 (n : Nat))).setCell ⟨b, 11, none⟩ (.slice p4 s.queue.length c4)).ownsRow 0 5 1 (.slice fq info.length fc) info.length (Lib.byteCells info) := ownsRow_keepsB (ownsRow_keepsB hv (Keeps.of (X := fun _ => False) hVb3) (fun _ _ => id)) hK (fun k hk e => by have := (hfree k hk).1; rw [e, hV3.ownb] at this; exact tg_pos _ _ this)
  have HV5 := hide hv5
  have HF := hide hfree
  clear hv5 hv hfree
  skip
  skip
  clear hack h5 hbx hK hV3 hAV3 hVb3 hq4 HACK hx hy hz h hok hgood hBB
  go_upto_region 24 with fail
  clear y0 y1 y2 y3 y4 y5 c7 c8 c11 c12 c14 fz hsl
  generalize ((V3.setCell ⟨b, 8, none⟩ (.int .i64 (n : Nat))).setCell ⟨b, 11, none⟩ (.slice p4 s.queue.length c4)) = V5 at *
  obtain ⟨y0, y1, y2, y3, y4, y5⟩ := frBox (unhide HBX)
  have hso := unhide HOK
  have hcok := (unhide H5).cok
  have hak := acknowledge_ok hcok hso h2 hn (unhide HGD)
  have hst5 : (acknowledge c n s).state = 2 := acknowledge_state.trans h2
  have hout5 : (acknowledge c n s).out.length + 32 ≤ 2199023255552 := by rw [acknowledge_out]; exact hl
  have hok6 := hearMsg_ok hcok hak hst5 (⟨fa, 1, fp, fns, (n : Nat), info⟩ : Fr)
  have hst6 := (hearMsg_state (c := c) (s := acknowledge c n s) (⟨fa, 1, fp, fns, (n : Nat), info⟩ : Fr)).trans hst5
  have ho6 := hearMsg_out (c := c) (s := acknowledge c n s) (⟨fa, 1, fp, fns, (n : Nat), info⟩ : Fr)
  have K6 := hide (message_ref (unhide H5) fa 1 fp fns (n : Nat) info fq fc (unhide HV5) (unhide HF) (by omega))
  have HK6 := hide (And.intro hok6 (And.intro hst6 (And.intro ho6 hout5)))
  clear hso hcok hak hst5 hout5 hok6 hst6 ho6
  go_wp2_with fail
  refine (unhide K6).mono ?_
  rintro e w6 ⟨rfl, own6, ⟨q6, cm6, o6, ev6, ce6, oe6, h6⟩, u6⟩
  obtain ⟨hok6, hst6, ho6, hout5⟩ := unhide HK6
  have K7 := hide (pump_ref h6 hok6 hst6 (by omega))
  have HU6 := hide ((unhide HU5).transT u6)
  clear K6 HK6 hok6 hst6 ho6 hout5 h6 u6 HU5 y0 y1 y2 y3 y4 y5
  go_wp2_with fail
  refine (unhide K7).mono ?_
  rintro e w7 ⟨rfl, own7, h7, u7⟩
  have HR := hide (And.intro h7 ((unhide HU6).trans u7))
  clear K7 h7 u7 HU6
  go_wp2
  first | go_end0 | refine bodyPost_ret (results_none rfl _ _ _) rfl ?_
  exact ⟨rfl, _, (unhide HR).1, (unhide HR).2⟩
set_option maxHeartbeats 8000000 in
set_option maxRecDepth 100000 in
theorem upg_m_nt (h : TAt w own i b c s cl q cm o ev ce oe) (hok : s.ok c) (h2 : s.state = 2) (fa : Int) (fp cm0 : Bool) (fns : Int) (n : Nat) (hn : n < c.m) (info : Msg) (fq : Option Addr) (fc : Nat) (hgood : ahead c s n ≤ ahead c s s.vm) (hA : ¬ ahead c s s.vs < ahead c s n) (hB : 0 < ahead c s n) (hpol : s.polling = false) (hv : w.ownsRow 0 5 1 (.slice fq info.length fc) info.length (Lib.byteCells info)) (hfree : ∀ k, (Value.slice fq info.length fc).ownBlock = some k → own k = 0 ∧ k ≠ 0) (hl : s.out.length + 32 ≤ 2199023255552) :
    Calls Tryz.prog 126 #[.pointer (some ⟨b, 0, none⟩), .agg #[.int .i64 fa, .int .i64 1, .bool fp, .int .i64 fns, .int .i64 (n : Nat), .slice fq info.length fc], .bool cm0] w fun e w' => TDidT (Value.slice fq info.length fc).ownBlock i b c (pump c (hearMsg c (⟨fa, 1, fp, fns, (n : Nat), info⟩ : Fr) (acknowledge c n s))) cl own w e w' := by
  have HACK := hide (ack_ref h.cok hok hn)
  have HOK := hide hok
  have HGD : Hid (isGood c s n = true) := hide (by unfold isGood; exact decide_eq_true hgood)
  have hxq : ahead c s n ≤ s.queue.length := Nat.le_trans hgood hok.svm
  have hlt := h.lt
  have hn0 := h.new0 w.heap.size (Nat.le_refl _)
  have hA0 := alloc1_a w (.cells #[.int .i64 fa, .int .i64 1, .bool fp, .int .i64 fns, .int .i64 (n : Nat), .slice fq info.length fc] 30)
  have hbA := (Below.refl w.heap.size w).alloc (Nat.le_refl _) (.cells #[.int .i64 fa, .int .i64 1, .bool fp, .int .i64 fns, .int .i64 (n : Nat), .slice fq info.length fc] 30)
  go_enter Tryz.func126, Tryz.ntmps126
  go_upto_region 1 with fail
  generalize w.alloc (.cells #[.int .i64 fa, .int .i64 1, .bool fp, .int .i64 fns, .int .i64 (n : Nat), .slice fq info.length fc] 30) = W0 at *
  have h0 := h.later hbA
  have k14 := fun N => away_ref (h0.drewN N) s.va n h0.sok.va hn
  have hah : (n + c.m - s.va) % c.m = ahead c s n := rfl
  rw [hah] at k14
  obtain ⟨y0, y1, y2, y3, y4, y5⟩ := frBox hA0
  have c8 : W0.cell? ⟨b, 8, none⟩ = some (.int .i64 s.va) := h0.cell 8 rfl
  have H0 := hide h0
  have HA0 := hide hA0
  have HBA := hide hbA
  clear h0 hA0 hbA hah
  generalize hx : ahead c s n = x at *
  go_wp2_with fail
  go_quiet (first | (go_at_call 133; exact Calls.quiet_of (k14 _)))
  have hV := (unhide H0).drewN nq
  have hVb : Below w.heap.size w (W0.drewN nq) := below_drewN (unhide HBA) nq
  have hAV : (W0.drewN nq).heap[w.heap.size]? = some (.cells #[.int .i64 fa, .int .i64 1, .bool fp, .int .i64 fns, .int .i64 (n : Nat), .slice fq info.length fc] 30 (0, 0)) := unhide HA0
  clear H0 HA0 HBA k14 y0 y1 y2 y3 y4 y5 c8
  generalize W0.drewN nq = V at *
  have k15 := fun N => away_ref (hV.drewN N) s.va s.vm hV.sok.va hV.sok.vm
  have hah : (s.vm + c.m - s.va) % c.m = ahead c s s.vm := rfl
  rw [hah] at k15
  obtain ⟨y0, y1, y2, y3, y4, y5⟩ := frBox hAV
  have c8 : V.cell? ⟨b, 8, none⟩ = some (.int .i64 s.va) := hV.cell 8 rfl
  have c10 : V.cell? ⟨b, 10, none⟩ = some (.int .i64 s.vm) := hV.cell 10 rfl
  have H1 := hide hV
  have HAV := hide hAV
  have HVB := hide hVb
  clear hV hAV hVb hah
  generalize hy : ahead c s s.vm = y at *
  have hngt : ¬ (y : Int) < (x : Int) := by omega
  go_wp2_with fail
  go_quiet (first | (go_at_call 133; exact Calls.quiet_of (k15 _)))
  have hV := (unhide H1).drewN nq
  have hVb := below_drewN (unhide HVB) nq
  have hAV : (V.drewN nq).heap[w.heap.size]? = some (.cells #[.int .i64 fa, .int .i64 1, .bool fp, .int .i64 fns, .int .i64 (n : Nat), .slice fq info.length fc] 30 (0, 0)) := unhide HAV
  clear H1 HVB HAV k15 y0 y1 y2 y3 y4 y5 c8 c10
  generalize V.drewN nq = V2 at *
  have k18 := fun N => away_ref (hV.drewN N) s.va s.vs hV.sok.va hV.sok.vs
  have hah : (s.vs + c.m - s.va) % c.m = ahead c s s.vs := rfl
  rw [hah] at k18
  have c7 : V2.cell? ⟨b, 7, none⟩ = some (.int .i64 s.vs) := hV.cell 7 rfl
  have c8 : V2.cell? ⟨b, 8, none⟩ = some (.int .i64 s.va) := hV.cell 8 rfl
  have H1 := hide hV
  have HAV := hide hAV
  have HVB := hide hVb
  clear hV hAV hVb hah
  generalize hz : ahead c s s.vs = z at *
  go_wp2_with fail
  go_quiet (first | (go_at_call 133; exact Calls.quiet_of (k18 _)))
  have hV3 := (unhide H1).drewN nq
  have hVb3 := below_drewN (unhide HVB) nq
  have hAV3 : (V2.drewN nq).heap[w.heap.size]? = some (.cells #[.int .i64 fa, .int .i64 1, .bool fp, .int .i64 fns, .int .i64 (n : Nat), .slice fq info.length fc] 30 (0, 0)) := unhide HAV
  clear H1 HVB HAV k18 c7 c8
  generalize V2.drewN nq = V3 at *
  obtain ⟨y0, y1, y2, y3, y4, y5⟩ := frBox hAV3
  skip
  obtain ⟨p4, c4, hq4, hsl⟩ := hV3.lq.cut hxq
  rw [List.length_drop] at hq4 hsl
  skip
  have c7 : V3.cell? ⟨b, 7, none⟩ = some (.int .i64 s.vs) := hV3.cell 7 rfl
  have c8 : V3.cell? ⟨b, 8, none⟩ = some (.int .i64 s.va) := hV3.cell 8 rfl
  have c11 : V3.cell? ⟨b, 11, none⟩ = some q := hV3.cell 11 rfl
  have c12 : V3.cell? ⟨b, 12, none⟩ = some (.int .i64 s.timer) := hV3.cell 12 rfl
  have c14 : V3.cell? ⟨b, 14, none⟩ = some (.bool s.polling) := hV3.cell 14 rfl
  rw [hpol] at c14
  have fz := hV3.fz
  have hne : ¬ w.heap.size = b := by omega
  have hne2 : ¬ b = w.heap.size := by omega
  have hBB : 0 < x ∧ s.polling = false := ⟨by omega, hpol⟩
  have hK : Keeps (· = b) V3 (((V3.setCell ⟨b, 8, none⟩ (.int .i64 (n : Nat))).setCell ⟨b, 11, none⟩ (.slice p4 (s.queue.length - x) c4)).setCell ⟨b, 12, none⟩ (.int .i64 0)) := ((((Keeps.refl _ V3).setB 8 _).setB 11 _).setB 12 _)
  have h5 := hV3.wroteL hK ((((hV3.hd.va n).lq (.slice p4 (s.queue.length - x) c4)).timer 0).as { s with vs := s.vs, va := n, queue := (s.queue.drop x), timer := 0 } rfl) hq4 Stays.same Stays.same (.inl ⟨rfl, rfl⟩) ⟨hV3.sok.state, hV3.sok.vs, hn, hV3.sok.vr, hV3.sok.vm, by show (s.queue.drop x).length ≤ 20; rw [List.length_drop]; have := hV3.sok.q20; omega, fun z hz => hV3.sok.q32 z (List.mem_of_mem_drop hz), Nat.zero_le _, hV3.sok.tries, hV3.sok.came⟩
  have hack := unhide HACK
  rw [if_neg hA, if_pos hBB] at hack
  rw [← hack] at h5
  have hbx : (((V3.setCell ⟨b, 8, none⟩ (.int .i64 (n : Nat))).setCell ⟨b, 11, none⟩ (.slice p4 (s.queue.length - x) c4)).setCell ⟨b, 12, none⟩ (.int .i64 0)).heap[w.heap.size]? = some (.cells #[.int .i64 fa, .int .i64 1, .bool fp, .int .i64 fns, .int .i64 (n : Nat), .slice fq info.length fc] 30 (0, 0)) := by
    rw [hK.block w.heap.size (Array.getElem?_eq_some_iff.1 hAV3).1 hne]
    exact hAV3
  have H5 := hide h5
  have HBX := hide hbx
  have HU5 := hide (Upd.of hVb3 (hV3.upd hK))
  have hv5 : (((V3.setCell ⟨b, 8, none⟩ (.int .i64 (n : Nat))).setCell ⟨b, 11, none⟩ (.slice p4 (s.queue.length - x) c4)).setCell ⟨b, 12, none⟩ (.int .i64 0)).ownsRow 0 5 1 (.slice fq info.length fc) info.length (Lib.byteCells info) := ownsRow_keepsB (ownsRow_keepsB hv (Keeps.of (X := fun _ => False) hVb3) (fun _ _ => id)) hK (fun k hk e => by have := (hfree k hk).1; rw [e, hV3.ownb] at this; exact tg_pos _ _ this)
  have HV5 := hide hv5
  have HF := hide hfree
  clear hv5 hv hfree
  have hAI : ¬ (z : Int) < (x : Int) := by omega
  have hBI : (0 : Int) < (x : Int) := by omega
  clear hack h5 hbx hK hV3 hAV3 hVb3 hq4 HACK hx hy hz h hok hgood hBB
  go_upto_region 24 with fail
  clear y0 y1 y2 y3 y4 y5 c7 c8 c11 c12 c14 fz hsl
  generalize (((V3.setCell ⟨b, 8, none⟩ (.int .i64 (n : Nat))).setCell ⟨b, 11, none⟩ (.slice p4 (s.queue.length - x) c4)).setCell ⟨b, 12, none⟩ (.int .i64 0)) = V5 at *
  obtain ⟨y0, y1, y2, y3, y4, y5⟩ := frBox (unhide HBX)
  have hso := unhide HOK
  have hcok := (unhide H5).cok
  have hak := acknowledge_ok hcok hso h2 hn (unhide HGD)
  have hst5 : (acknowledge c n s).state = 2 := acknowledge_state.trans h2
  have hout5 : (acknowledge c n s).out.length + 32 ≤ 2199023255552 := by rw [acknowledge_out]; exact hl
  have hok6 := hearMsg_ok hcok hak hst5 (⟨fa, 1, fp, fns, (n : Nat), info⟩ : Fr)
  have hst6 := (hearMsg_state (c := c) (s := acknowledge c n s) (⟨fa, 1, fp, fns, (n : Nat), info⟩ : Fr)).trans hst5
  have ho6 := hearMsg_out (c := c) (s := acknowledge c n s) (⟨fa, 1, fp, fns, (n : Nat), info⟩ : Fr)
  have K6 := hide (message_ref (unhide H5) fa 1 fp fns (n : Nat) info fq fc (unhide HV5) (unhide HF) (by omega))
  have HK6 := hide (And.intro hok6 (And.intro hst6 (And.intro ho6 hout5)))
  clear hso hcok hak hst5 hout5 hok6 hst6 ho6
  go_wp2_with fail
  refine (unhide K6).mono ?_
  rintro e w6 ⟨rfl, own6, ⟨q6, cm6, o6, ev6, ce6, oe6, h6⟩, u6⟩
  obtain ⟨hok6, hst6, ho6, hout5⟩ := unhide HK6
  have K7 := hide (pump_ref h6 hok6 hst6 (by omega))
  have HU6 := hide ((unhide HU5).transT u6)
  clear K6 HK6 hok6 hst6 ho6 hout5 h6 u6 HU5 y0 y1 y2 y3 y4 y5
  go_wp2_with fail
  refine (unhide K7).mono ?_
  rintro e w7 ⟨rfl, own7, h7, u7⟩
  have HR := hide (And.intro h7 ((unhide HU6).trans u7))
  clear K7 h7 u7 HU6
  go_wp2
  first | go_end0 | refine bodyPost_ret (results_none rfl _ _ _) rfl ?_
  exact ⟨rfl, _, (unhide HR).1, (unhide HR).2⟩
set_option maxHeartbeats 8000000 in
set_option maxRecDepth 100000 in
theorem upg_m_np (h : TAt w own i b c s cl q cm o ev ce oe) (hok : s.ok c) (h2 : s.state = 2) (fa : Int) (fp cm0 : Bool) (fns : Int) (n : Nat) (hn : n < c.m) (info : Msg) (fq : Option Addr) (fc : Nat) (hgood : ahead c s n ≤ ahead c s s.vm) (hA : ¬ ahead c s s.vs < ahead c s n) (hB : 0 < ahead c s n) (hpol : s.polling = true) (hv : w.ownsRow 0 5 1 (.slice fq info.length fc) info.length (Lib.byteCells info)) (hfree : ∀ k, (Value.slice fq info.length fc).ownBlock = some k → own k = 0 ∧ k ≠ 0) (hl : s.out.length + 32 ≤ 2199023255552) :
    Calls Tryz.prog 126 #[.pointer (some ⟨b, 0, none⟩), .agg #[.int .i64 fa, .int .i64 1, .bool fp, .int .i64 fns, .int .i64 (n : Nat), .slice fq info.length fc], .bool cm0] w fun e w' => TDidT (Value.slice fq info.length fc).ownBlock i b c (pump c (hearMsg c (⟨fa, 1, fp, fns, (n : Nat), info⟩ : Fr) (acknowledge c n s))) cl own w e w' := by
  have HACK := hide (ack_ref h.cok hok hn)
  have HOK := hide hok
  have HGD : Hid (isGood c s n = true) := hide (by unfold isGood; exact decide_eq_true hgood)
  have hxq : ahead c s n ≤ s.queue.length := Nat.le_trans hgood hok.svm
  have hlt := h.lt
  have hn0 := h.new0 w.heap.size (Nat.le_refl _)
  have hA0 := alloc1_a w (.cells #[.int .i64 fa, .int .i64 1, .bool fp, .int .i64 fns, .int .i64 (n : Nat), .slice fq info.length fc] 30)
  have hbA := (Below.refl w.heap.size w).alloc (Nat.le_refl _) (.cells #[.int .i64 fa, .int .i64 1, .bool fp, .int .i64 fns, .int .i64 (n : Nat), .slice fq info.length fc] 30)
  go_enter Tryz.func126, Tryz.ntmps126
  go_upto_region 1 with fail
  generalize w.alloc (.cells #[.int .i64 fa, .int .i64 1, .bool fp, .int .i64 fns, .int .i64 (n : Nat), .slice fq info.length fc] 30) = W0 at *
  have h0 := h.later hbA
  have k14 := fun N => away_ref (h0.drewN N) s.va n h0.sok.va hn
  have hah : (n + c.m - s.va) % c.m = ahead c s n := rfl
  rw [hah] at k14
  obtain ⟨y0, y1, y2, y3, y4, y5⟩ := frBox hA0
  have c8 : W0.cell? ⟨b, 8, none⟩ = some (.int .i64 s.va) := h0.cell 8 rfl
  have H0 := hide h0
  have HA0 := hide hA0
  have HBA := hide hbA
  clear h0 hA0 hbA hah
  generalize hx : ahead c s n = x at *
  go_wp2_with fail
  go_quiet (first | (go_at_call 133; exact Calls.quiet_of (k14 _)))
  have hV := (unhide H0).drewN nq
  have hVb : Below w.heap.size w (W0.drewN nq) := below_drewN (unhide HBA) nq
  have hAV : (W0.drewN nq).heap[w.heap.size]? = some (.cells #[.int .i64 fa, .int .i64 1, .bool fp, .int .i64 fns, .int .i64 (n : Nat), .slice fq info.length fc] 30 (0, 0)) := unhide HA0
  clear H0 HA0 HBA k14 y0 y1 y2 y3 y4 y5 c8
  generalize W0.drewN nq = V at *
  have k15 := fun N => away_ref (hV.drewN N) s.va s.vm hV.sok.va hV.sok.vm
  have hah : (s.vm + c.m - s.va) % c.m = ahead c s s.vm := rfl
  rw [hah] at k15
  obtain ⟨y0, y1, y2, y3, y4, y5⟩ := frBox hAV
  have c8 : V.cell? ⟨b, 8, none⟩ = some (.int .i64 s.va) := hV.cell 8 rfl
  have c10 : V.cell? ⟨b, 10, none⟩ = some (.int .i64 s.vm) := hV.cell 10 rfl
  have H1 := hide hV
  have HAV := hide hAV
  have HVB := hide hVb
  clear hV hAV hVb hah
  generalize hy : ahead c s s.vm = y at *
  have hngt : ¬ (y : Int) < (x : Int) := by omega
  go_wp2_with fail
  go_quiet (first | (go_at_call 133; exact Calls.quiet_of (k15 _)))
  have hV := (unhide H1).drewN nq
  have hVb := below_drewN (unhide HVB) nq
  have hAV : (V.drewN nq).heap[w.heap.size]? = some (.cells #[.int .i64 fa, .int .i64 1, .bool fp, .int .i64 fns, .int .i64 (n : Nat), .slice fq info.length fc] 30 (0, 0)) := unhide HAV
  clear H1 HVB HAV k15 y0 y1 y2 y3 y4 y5 c8 c10
  generalize V.drewN nq = V2 at *
  have k18 := fun N => away_ref (hV.drewN N) s.va s.vs hV.sok.va hV.sok.vs
  have hah : (s.vs + c.m - s.va) % c.m = ahead c s s.vs := rfl
  rw [hah] at k18
  have c7 : V2.cell? ⟨b, 7, none⟩ = some (.int .i64 s.vs) := hV.cell 7 rfl
  have c8 : V2.cell? ⟨b, 8, none⟩ = some (.int .i64 s.va) := hV.cell 8 rfl
  have H1 := hide hV
  have HAV := hide hAV
  have HVB := hide hVb
  clear hV hAV hVb hah
  generalize hz : ahead c s s.vs = z at *
  go_wp2_with fail
  go_quiet (first | (go_at_call 133; exact Calls.quiet_of (k18 _)))
  have hV3 := (unhide H1).drewN nq
  have hVb3 := below_drewN (unhide HVB) nq
  have hAV3 : (V2.drewN nq).heap[w.heap.size]? = some (.cells #[.int .i64 fa, .int .i64 1, .bool fp, .int .i64 fns, .int .i64 (n : Nat), .slice fq info.length fc] 30 (0, 0)) := unhide HAV
  clear H1 HVB HAV k18 c7 c8
  generalize V2.drewN nq = V3 at *
  obtain ⟨y0, y1, y2, y3, y4, y5⟩ := frBox hAV3
  skip
  obtain ⟨p4, c4, hq4, hsl⟩ := hV3.lq.cut hxq
  rw [List.length_drop] at hq4 hsl
  skip
  have c7 : V3.cell? ⟨b, 7, none⟩ = some (.int .i64 s.vs) := hV3.cell 7 rfl
  have c8 : V3.cell? ⟨b, 8, none⟩ = some (.int .i64 s.va) := hV3.cell 8 rfl
  have c11 : V3.cell? ⟨b, 11, none⟩ = some q := hV3.cell 11 rfl
  have c12 : V3.cell? ⟨b, 12, none⟩ = some (.int .i64 s.timer) := hV3.cell 12 rfl
  have c14 : V3.cell? ⟨b, 14, none⟩ = some (.bool s.polling) := hV3.cell 14 rfl
  rw [hpol] at c14
  have fz := hV3.fz
  have hne : ¬ w.heap.size = b := by omega
  have hne2 : ¬ b = w.heap.size := by omega
  have hBB : ¬ (0 < x ∧ s.polling = false) := fun hh => by rw [hpol] at hh; cases hh.2
  have hK : Keeps (· = b) V3 ((V3.setCell ⟨b, 8, none⟩ (.int .i64 (n : Nat))).setCell ⟨b, 11, none⟩ (.slice p4 (s.queue.length - x) c4)) := (((Keeps.refl _ V3).setB 8 _).setB 11 _)
  have h5 := hV3.wroteL hK (((hV3.hd.va n).lq (.slice p4 (s.queue.length - x) c4)).as { s with vs := s.vs, va := n, queue := (s.queue.drop x), timer := s.timer } rfl) hq4 Stays.same Stays.same (.inl ⟨rfl, rfl⟩) ⟨hV3.sok.state, hV3.sok.vs, hn, hV3.sok.vr, hV3.sok.vm, by show (s.queue.drop x).length ≤ 20; rw [List.length_drop]; have := hV3.sok.q20; omega, fun z hz => hV3.sok.q32 z (List.mem_of_mem_drop hz), hV3.sok.timer, hV3.sok.tries, hV3.sok.came⟩
  have hack := unhide HACK
  rw [if_neg hA, if_neg hBB] at hack
  rw [← hack] at h5
  have hbx : ((V3.setCell ⟨b, 8, none⟩ (.int .i64 (n : Nat))).setCell ⟨b, 11, none⟩ (.slice p4 (s.queue.length - x) c4)).heap[w.heap.size]? = some (.cells #[.int .i64 fa, .int .i64 1, .bool fp, .int .i64 fns, .int .i64 (n : Nat), .slice fq info.length fc] 30 (0, 0)) := by
    rw [hK.block w.heap.size (Array.getElem?_eq_some_iff.1 hAV3).1 hne]
    exact hAV3
  have H5 := hide h5
  have HBX := hide hbx
  have HU5 := hide (Upd.of hVb3 (hV3.upd hK))
  have hv5 : ((V3.setCell ⟨b, 8, none⟩ (.int .i64 (n : Nat))).setCell ⟨b, 11, none⟩ (.slice p4 (s.queue.length - x) c4)).ownsRow 0 5 1 (.slice fq info.length fc) info.length (Lib.byteCells info) := ownsRow_keepsB (ownsRow_keepsB hv (Keeps.of (X := fun _ => False) hVb3) (fun _ _ => id)) hK (fun k hk e => by have := (hfree k hk).1; rw [e, hV3.ownb] at this; exact tg_pos _ _ this)
  have HV5 := hide hv5
  have HF := hide hfree
  clear hv5 hv hfree
  have hAI : ¬ (z : Int) < (x : Int) := by omega
  have hBI : (0 : Int) < (x : Int) := by omega
  clear hack h5 hbx hK hV3 hAV3 hVb3 hq4 HACK hx hy hz h hok hgood hBB
  go_upto_region 24 with fail
  clear y0 y1 y2 y3 y4 y5 c7 c8 c11 c12 c14 fz hsl
  generalize ((V3.setCell ⟨b, 8, none⟩ (.int .i64 (n : Nat))).setCell ⟨b, 11, none⟩ (.slice p4 (s.queue.length - x) c4)) = V5 at *
  obtain ⟨y0, y1, y2, y3, y4, y5⟩ := frBox (unhide HBX)
  have hso := unhide HOK
  have hcok := (unhide H5).cok
  have hak := acknowledge_ok hcok hso h2 hn (unhide HGD)
  have hst5 : (acknowledge c n s).state = 2 := acknowledge_state.trans h2
  have hout5 : (acknowledge c n s).out.length + 32 ≤ 2199023255552 := by rw [acknowledge_out]; exact hl
  have hok6 := hearMsg_ok hcok hak hst5 (⟨fa, 1, fp, fns, (n : Nat), info⟩ : Fr)
  have hst6 := (hearMsg_state (c := c) (s := acknowledge c n s) (⟨fa, 1, fp, fns, (n : Nat), info⟩ : Fr)).trans hst5
  have ho6 := hearMsg_out (c := c) (s := acknowledge c n s) (⟨fa, 1, fp, fns, (n : Nat), info⟩ : Fr)
  have K6 := hide (message_ref (unhide H5) fa 1 fp fns (n : Nat) info fq fc (unhide HV5) (unhide HF) (by omega))
  have HK6 := hide (And.intro hok6 (And.intro hst6 (And.intro ho6 hout5)))
  clear hso hcok hak hst5 hout5 hok6 hst6 ho6
  go_wp2_with fail
  refine (unhide K6).mono ?_
  rintro e w6 ⟨rfl, own6, ⟨q6, cm6, o6, ev6, ce6, oe6, h6⟩, u6⟩
  obtain ⟨hok6, hst6, ho6, hout5⟩ := unhide HK6
  have K7 := hide (pump_ref h6 hok6 hst6 (by omega))
  have HU6 := hide ((unhide HU5).transT u6)
  clear K6 HK6 hok6 hst6 ho6 hout5 h6 u6 HU5 y0 y1 y2 y3 y4 y5
  go_wp2_with fail
  refine (unhide K7).mono ?_
  rintro e w7 ⟨rfl, own7, h7, u7⟩
  have HR := hide (And.intro h7 ((unhide HU6).trans u7))
  clear K7 h7 u7 HU6
  go_wp2
  first | go_end0 | refine bodyPost_ret (results_none rfl _ _ _) rfl ?_
  exact ⟨rfl, _, (unhide HR).1, (unhide HR).2⟩
set_option maxHeartbeats 8000000 in
set_option maxRecDepth 100000 in
theorem upg_m_at (h : TAt w own i b c s cl q cm o ev ce oe) (hok : s.ok c) (h2 : s.state = 2) (fa : Int) (fp cm0 : Bool) (fns : Int) (n : Nat) (hn : n < c.m) (info : Msg) (fq : Option Addr) (fc : Nat) (hgood : ahead c s n ≤ ahead c s s.vm) (hA : ahead c s s.vs < ahead c s n) (hB : 0 < ahead c s n) (hpol : s.polling = false) (hv : w.ownsRow 0 5 1 (.slice fq info.length fc) info.length (Lib.byteCells info)) (hfree : ∀ k, (Value.slice fq info.length fc).ownBlock = some k → own k = 0 ∧ k ≠ 0) (hl : s.out.length + 32 ≤ 2199023255552) :
    Calls Tryz.prog 126 #[.pointer (some ⟨b, 0, none⟩), .agg #[.int .i64 fa, .int .i64 1, .bool fp, .int .i64 fns, .int .i64 (n : Nat), .slice fq info.length fc], .bool cm0] w fun e w' => TDidT (Value.slice fq info.length fc).ownBlock i b c (pump c (hearMsg c (⟨fa, 1, fp, fns, (n : Nat), info⟩ : Fr) (acknowledge c n s))) cl own w e w' := by
  have HACK := hide (ack_ref h.cok hok hn)
  have HOK := hide hok
  have HGD : Hid (isGood c s n = true) := hide (by unfold isGood; exact decide_eq_true hgood)
  have hxq : ahead c s n ≤ s.queue.length := Nat.le_trans hgood hok.svm
  have hlt := h.lt
  have hn0 := h.new0 w.heap.size (Nat.le_refl _)
  have hA0 := alloc1_a w (.cells #[.int .i64 fa, .int .i64 1, .bool fp, .int .i64 fns, .int .i64 (n : Nat), .slice fq info.length fc] 30)
  have hbA := (Below.refl w.heap.size w).alloc (Nat.le_refl _) (.cells #[.int .i64 fa, .int .i64 1, .bool fp, .int .i64 fns, .int .i64 (n : Nat), .slice fq info.length fc] 30)
  go_enter Tryz.func126, Tryz.ntmps126
  go_upto_region 1 with fail
  generalize w.alloc (.cells #[.int .i64 fa, .int .i64 1, .bool fp, .int .i64 fns, .int .i64 (n : Nat), .slice fq info.length fc] 30) = W0 at *
  have h0 := h.later hbA
  have k14 := fun N => away_ref (h0.drewN N) s.va n h0.sok.va hn
  have hah : (n + c.m - s.va) % c.m = ahead c s n := rfl
  rw [hah] at k14
  obtain ⟨y0, y1, y2, y3, y4, y5⟩ := frBox hA0
  have c8 : W0.cell? ⟨b, 8, none⟩ = some (.int .i64 s.va) := h0.cell 8 rfl
  have H0 := hide h0
  have HA0 := hide hA0
  have HBA := hide hbA
  clear h0 hA0 hbA hah
  generalize hx : ahead c s n = x at *
  go_wp2_with fail
  go_quiet (first | (go_at_call 133; exact Calls.quiet_of (k14 _)))
  have hV := (unhide H0).drewN nq
  have hVb : Below w.heap.size w (W0.drewN nq) := below_drewN (unhide HBA) nq
  have hAV : (W0.drewN nq).heap[w.heap.size]? = some (.cells #[.int .i64 fa, .int .i64 1, .bool fp, .int .i64 fns, .int .i64 (n : Nat), .slice fq info.length fc] 30 (0, 0)) := unhide HA0
  clear H0 HA0 HBA k14 y0 y1 y2 y3 y4 y5 c8
  generalize W0.drewN nq = V at *
  have k15 := fun N => away_ref (hV.drewN N) s.va s.vm hV.sok.va hV.sok.vm
  have hah : (s.vm + c.m - s.va) % c.m = ahead c s s.vm := rfl
  rw [hah] at k15
  obtain ⟨y0, y1, y2, y3, y4, y5⟩ := frBox hAV
  have c8 : V.cell? ⟨b, 8, none⟩ = some (.int .i64 s.va) := hV.cell 8 rfl
  have c10 : V.cell? ⟨b, 10, none⟩ = some (.int .i64 s.vm) := hV.cell 10 rfl
  have H1 := hide hV
  have HAV := hide hAV
  have HVB := hide hVb
  clear hV hAV hVb hah
  generalize hy : ahead c s s.vm = y at *
  have hngt : ¬ (y : Int) < (x : Int) := by omega
  go_wp2_with fail
  go_quiet (first | (go_at_call 133; exact Calls.quiet_of (k15 _)))
  have hV := (unhide H1).drewN nq
  have hVb := below_drewN (unhide HVB) nq
  have hAV : (V.drewN nq).heap[w.heap.size]? = some (.cells #[.int .i64 fa, .int .i64 1, .bool fp, .int .i64 fns, .int .i64 (n : Nat), .slice fq info.length fc] 30 (0, 0)) := unhide HAV
  clear H1 HVB HAV k15 y0 y1 y2 y3 y4 y5 c8 c10
  generalize V.drewN nq = V2 at *
  have k18 := fun N => away_ref (hV.drewN N) s.va s.vs hV.sok.va hV.sok.vs
  have hah : (s.vs + c.m - s.va) % c.m = ahead c s s.vs := rfl
  rw [hah] at k18
  have c7 : V2.cell? ⟨b, 7, none⟩ = some (.int .i64 s.vs) := hV.cell 7 rfl
  have c8 : V2.cell? ⟨b, 8, none⟩ = some (.int .i64 s.va) := hV.cell 8 rfl
  have H1 := hide hV
  have HAV := hide hAV
  have HVB := hide hVb
  clear hV hAV hVb hah
  generalize hz : ahead c s s.vs = z at *
  go_wp2_with fail
  go_quiet (first | (go_at_call 133; exact Calls.quiet_of (k18 _)))
  have hV3 := (unhide H1).drewN nq
  have hVb3 := below_drewN (unhide HVB) nq
  have hAV3 : (V2.drewN nq).heap[w.heap.size]? = some (.cells #[.int .i64 fa, .int .i64 1, .bool fp, .int .i64 fns, .int .i64 (n : Nat), .slice fq info.length fc] 30 (0, 0)) := unhide HAV
  clear H1 HVB HAV k18 c7 c8
  generalize V2.drewN nq = V3 at *
  obtain ⟨y0, y1, y2, y3, y4, y5⟩ := frBox hAV3
  skip
  obtain ⟨p4, c4, hq4, hsl⟩ := hV3.lq.cut hxq
  rw [List.length_drop] at hq4 hsl
  skip
  have c7 : V3.cell? ⟨b, 7, none⟩ = some (.int .i64 s.vs) := hV3.cell 7 rfl
  have c8 : V3.cell? ⟨b, 8, none⟩ = some (.int .i64 s.va) := hV3.cell 8 rfl
  have c11 : V3.cell? ⟨b, 11, none⟩ = some q := hV3.cell 11 rfl
  have c12 : V3.cell? ⟨b, 12, none⟩ = some (.int .i64 s.timer) := hV3.cell 12 rfl
  have c14 : V3.cell? ⟨b, 14, none⟩ = some (.bool s.polling) := hV3.cell 14 rfl
  rw [hpol] at c14
  have fz := hV3.fz
  have hne : ¬ w.heap.size = b := by omega
  have hne2 : ¬ b = w.heap.size := by omega
  have hBB : 0 < x ∧ s.polling = false := ⟨by omega, hpol⟩
  have hK : Keeps (· = b) V3 ((((V3.setCell ⟨b, 7, none⟩ (.int .i64 (n : Nat))).setCell ⟨b, 8, none⟩ (.int .i64 (n : Nat))).setCell ⟨b, 11, none⟩ (.slice p4 (s.queue.length - x) c4)).setCell ⟨b, 12, none⟩ (.int .i64 0)) := (((((Keeps.refl _ V3).setB 7 _).setB 8 _).setB 11 _).setB 12 _)
  have h5 := hV3.wroteL hK (((((hV3.hd.vs n).va n).lq (.slice p4 (s.queue.length - x) c4)).timer 0).as { s with vs := n, va := n, queue := (s.queue.drop x), timer := 0 } rfl) hq4 Stays.same Stays.same (.inl ⟨rfl, rfl⟩) ⟨hV3.sok.state, hn, hn, hV3.sok.vr, hV3.sok.vm, by show (s.queue.drop x).length ≤ 20; rw [List.length_drop]; have := hV3.sok.q20; omega, fun z hz => hV3.sok.q32 z (List.mem_of_mem_drop hz), Nat.zero_le _, hV3.sok.tries, hV3.sok.came⟩
  have hack := unhide HACK
  rw [if_pos hA, if_pos hBB] at hack
  rw [← hack] at h5
  have hbx : ((((V3.setCell ⟨b, 7, none⟩ (.int .i64 (n : Nat))).setCell ⟨b, 8, none⟩ (.int .i64 (n : Nat))).setCell ⟨b, 11, none⟩ (.slice p4 (s.queue.length - x) c4)).setCell ⟨b, 12, none⟩ (.int .i64 0)).heap[w.heap.size]? = some (.cells #[.int .i64 fa, .int .i64 1, .bool fp, .int .i64 fns, .int .i64 (n : Nat), .slice fq info.length fc] 30 (0, 0)) := by
    rw [hK.block w.heap.size (Array.getElem?_eq_some_iff.1 hAV3).1 hne]
    exact hAV3
  have H5 := hide h5
  have HBX := hide hbx
  have HU5 := hide (Upd.of hVb3 (hV3.upd hK))
  have hv5 : ((((V3.setCell ⟨b, 7, none⟩ (.int .i64 (n : Nat))).setCell ⟨b, 8, none⟩ (.int .i64 (n : Nat))).setCell ⟨b, 11, none⟩ (.slice p4 (s.queue.length - x) c4)).setCell ⟨b, 12, none⟩ (.int .i64 0)).ownsRow 0 5 1 (.slice fq info.length fc) info.length (Lib.byteCells info) := ownsRow_keepsB (ownsRow_keepsB hv (Keeps.of (X := fun _ => False) hVb3) (fun _ _ => id)) hK (fun k hk e => by have := (hfree k hk).1; rw [e, hV3.ownb] at this; exact tg_pos _ _ this)
  have HV5 := hide hv5
  have HF := hide hfree
  clear hv5 hv hfree
  have hAI : (z : Int) < (x : Int) := by omega
  have hBI : (0 : Int) < (x : Int) := by omega
  clear hack h5 hbx hK hV3 hAV3 hVb3 hq4 HACK hx hy hz h hok hgood hBB
  go_upto_region 24 with fail
  clear y0 y1 y2 y3 y4 y5 c7 c8 c11 c12 c14 fz hsl
  generalize ((((V3.setCell ⟨b, 7, none⟩ (.int .i64 (n : Nat))).setCell ⟨b, 8, none⟩ (.int .i64 (n : Nat))).setCell ⟨b, 11, none⟩ (.slice p4 (s.queue.length - x) c4)).setCell ⟨b, 12, none⟩ (.int .i64 0)) = V5 at *
  obtain ⟨y0, y1, y2, y3, y4, y5⟩ := frBox (unhide HBX)
  have hso := unhide HOK
  have hcok := (unhide H5).cok
  have hak := acknowledge_ok hcok hso h2 hn (unhide HGD)
  have hst5 : (acknowledge c n s).state = 2 := acknowledge_state.trans h2
  have hout5 : (acknowledge c n s).out.length + 32 ≤ 2199023255552 := by rw [acknowledge_out]; exact hl
  have hok6 := hearMsg_ok hcok hak hst5 (⟨fa, 1, fp, fns, (n : Nat), info⟩ : Fr)
  have hst6 := (hearMsg_state (c := c) (s := acknowledge c n s) (⟨fa, 1, fp, fns, (n : Nat), info⟩ : Fr)).trans hst5
  have ho6 := hearMsg_out (c := c) (s := acknowledge c n s) (⟨fa, 1, fp, fns, (n : Nat), info⟩ : Fr)
  have K6 := hide (message_ref (unhide H5) fa 1 fp fns (n : Nat) info fq fc (unhide HV5) (unhide HF) (by omega))
  have HK6 := hide (And.intro hok6 (And.intro hst6 (And.intro ho6 hout5)))
  clear hso hcok hak hst5 hout5 hok6 hst6 ho6
  go_wp2_with fail
  refine (unhide K6).mono ?_
  rintro e w6 ⟨rfl, own6, ⟨q6, cm6, o6, ev6, ce6, oe6, h6⟩, u6⟩
  obtain ⟨hok6, hst6, ho6, hout5⟩ := unhide HK6
  have K7 := hide (pump_ref h6 hok6 hst6 (by omega))
  have HU6 := hide ((unhide HU5).transT u6)
  clear K6 HK6 hok6 hst6 ho6 hout5 h6 u6 HU5 y0 y1 y2 y3 y4 y5
  go_wp2_with fail
  refine (unhide K7).mono ?_
  rintro e w7 ⟨rfl, own7, h7, u7⟩
  have HR := hide (And.intro h7 ((unhide HU6).trans u7))
  clear K7 h7 u7 HU6
  go_wp2
  first | go_end0 | refine bodyPost_ret (results_none rfl _ _ _) rfl ?_
  exact ⟨rfl, _, (unhide HR).1, (unhide HR).2⟩
set_option maxHeartbeats 8000000 in
set_option maxRecDepth 100000 in
theorem upg_m_ap (h : TAt w own i b c s cl q cm o ev ce oe) (hok : s.ok c) (h2 : s.state = 2) (fa : Int) (fp cm0 : Bool) (fns : Int) (n : Nat) (hn : n < c.m) (info : Msg) (fq : Option Addr) (fc : Nat) (hgood : ahead c s n ≤ ahead c s s.vm) (hA : ahead c s s.vs < ahead c s n) (hB : 0 < ahead c s n) (hpol : s.polling = true) (hv : w.ownsRow 0 5 1 (.slice fq info.length fc) info.length (Lib.byteCells info)) (hfree : ∀ k, (Value.slice fq info.length fc).ownBlock = some k → own k = 0 ∧ k ≠ 0) (hl : s.out.length + 32 ≤ 2199023255552) :
    Calls Tryz.prog 126 #[.pointer (some ⟨b, 0, none⟩), .agg #[.int .i64 fa, .int .i64 1, .bool fp, .int .i64 fns, .int .i64 (n : Nat), .slice fq info.length fc], .bool cm0] w fun e w' => TDidT (Value.slice fq info.length fc).ownBlock i b c (pump c (hearMsg c (⟨fa, 1, fp, fns, (n : Nat), info⟩ : Fr) (acknowledge c n s))) cl own w e w' := by
  have HACK := hide (ack_ref h.cok hok hn)
  have HOK := hide hok
  have HGD : Hid (isGood c s n = true) := hide (by unfold isGood; exact decide_eq_true hgood)
  have hxq : ahead c s n ≤ s.queue.length := Nat.le_trans hgood hok.svm
  have hlt := h.lt
  have hn0 := h.new0 w.heap.size (Nat.le_refl _)
  have hA0 := alloc1_a w (.cells #[.int .i64 fa, .int .i64 1, .bool fp, .int .i64 fns, .int .i64 (n : Nat), .slice fq info.length fc] 30)
  have hbA := (Below.refl w.heap.size w).alloc (Nat.le_refl _) (.cells #[.int .i64 fa, .int .i64 1, .bool fp, .int .i64 fns, .int .i64 (n : Nat), .slice fq info.length fc] 30)
  go_enter Tryz.func126, Tryz.ntmps126
  go_upto_region 1 with fail
  generalize w.alloc (.cells #[.int .i64 fa, .int .i64 1, .bool fp, .int .i64 fns, .int .i64 (n : Nat), .slice fq info.length fc] 30) = W0 at *
  have h0 := h.later hbA
  have k14 := fun N => away_ref (h0.drewN N) s.va n h0.sok.va hn
  have hah : (n + c.m - s.va) % c.m = ahead c s n := rfl
  rw [hah] at k14
  obtain ⟨y0, y1, y2, y3, y4, y5⟩ := frBox hA0
  have c8 : W0.cell? ⟨b, 8, none⟩ = some (.int .i64 s.va) := h0.cell 8 rfl
  have H0 := hide h0
  have HA0 := hide hA0
  have HBA := hide hbA
  clear h0 hA0 hbA hah
  generalize hx : ahead c s n = x at *
  go_wp2_with fail
  go_quiet (first | (go_at_call 133; exact Calls.quiet_of (k14 _)))
  have hV := (unhide H0).drewN nq
  have hVb : Below w.heap.size w (W0.drewN nq) := below_drewN (unhide HBA) nq
  have hAV : (W0.drewN nq).heap[w.heap.size]? = some (.cells #[.int .i64 fa, .int .i64 1, .bool fp, .int .i64 fns, .int .i64 (n : Nat), .slice fq info.length fc] 30 (0, 0)) := unhide HA0
  clear H0 HA0 HBA k14 y0 y1 y2 y3 y4 y5 c8
  generalize W0.drewN nq = V at *
  have k15 := fun N => away_ref (hV.drewN N) s.va s.vm hV.sok.va hV.sok.vm
  have hah : (s.vm + c.m - s.va) % c.m = ahead c s s.vm := rfl
  rw [hah] at k15
  obtain ⟨y0, y1, y2, y3, y4, y5⟩ := frBox hAV
  have c8 : V.cell? ⟨b, 8, none⟩ = some (.int .i64 s.va) := hV.cell 8 rfl
  have c10 : V.cell? ⟨b, 10, none⟩ = some (.int .i64 s.vm) := hV.cell 10 rfl
  have H1 := hide hV
  have HAV := hide hAV
  have HVB := hide hVb
  clear hV hAV hVb hah
  generalize hy : ahead c s s.vm = y at *
  have hngt : ¬ (y : Int) < (x : Int) := by omega
  go_wp2_with fail
  go_quiet (first | (go_at_call 133; exact Calls.quiet_of (k15 _)))
  have hV := (unhide H1).drewN nq
  have hVb := below_drewN (unhide HVB) nq
  have hAV : (V.drewN nq).heap[w.heap.size]? = some (.cells #[.int .i64 fa, .int .i64 1, .bool fp, .int .i64 fns, .int .i64 (n : Nat), .slice fq info.length fc] 30 (0, 0)) := unhide HAV
  clear H1 HVB HAV k15 y0 y1 y2 y3 y4 y5 c8 c10
  generalize V.drewN nq = V2 at *
  have k18 := fun N => away_ref (hV.drewN N) s.va s.vs hV.sok.va hV.sok.vs
  have hah : (s.vs + c.m - s.va) % c.m = ahead c s s.vs := rfl
  rw [hah] at k18
  have c7 : V2.cell? ⟨b, 7, none⟩ = some (.int .i64 s.vs) := hV.cell 7 rfl
  have c8 : V2.cell? ⟨b, 8, none⟩ = some (.int .i64 s.va) := hV.cell 8 rfl
  have H1 := hide hV
  have HAV := hide hAV
  have HVB := hide hVb
  clear hV hAV hVb hah
  generalize hz : ahead c s s.vs = z at *
  go_wp2_with fail
  go_quiet (first | (go_at_call 133; exact Calls.quiet_of (k18 _)))
  have hV3 := (unhide H1).drewN nq
  have hVb3 := below_drewN (unhide HVB) nq
  have hAV3 : (V2.drewN nq).heap[w.heap.size]? = some (.cells #[.int .i64 fa, .int .i64 1, .bool fp, .int .i64 fns, .int .i64 (n : Nat), .slice fq info.length fc] 30 (0, 0)) := unhide HAV
  clear H1 HVB HAV k18 c7 c8
  generalize V2.drewN nq = V3 at *
  obtain ⟨y0, y1, y2, y3, y4, y5⟩ := frBox hAV3
  skip
  obtain ⟨p4, c4, hq4, hsl⟩ := hV3.lq.cut hxq
  rw [List.length_drop] at hq4 hsl
  skip
  have c7 : V3.cell? ⟨b, 7, none⟩ = some (.int .i64 s.vs) := hV3.cell 7 rfl
  have c8 : V3.cell? ⟨b, 8, none⟩ = some (.int .i64 s.va) := hV3.cell 8 rfl
  have c11 : V3.cell? ⟨b, 11, none⟩ = some q := hV3.cell 11 rfl
  have c12 : V3.cell? ⟨b, 12, none⟩ = some (.int .i64 s.timer) := hV3.cell 12 rfl
  have c14 : V3.cell? ⟨b, 14, none⟩ = some (.bool s.polling) := hV3.cell 14 rfl
  rw [hpol] at c14
  have fz := hV3.fz
  have hne : ¬ w.heap.size = b := by omega
  have hne2 : ¬ b = w.heap.size := by omega
  have hBB : ¬ (0 < x ∧ s.polling = false) := fun hh => by rw [hpol] at hh; cases hh.2
  have hK : Keeps (· = b) V3 (((V3.setCell ⟨b, 7, none⟩ (.int .i64 (n : Nat))).setCell ⟨b, 8, none⟩ (.int .i64 (n : Nat))).setCell ⟨b, 11, none⟩ (.slice p4 (s.queue.length - x) c4)) := ((((Keeps.refl _ V3).setB 7 _).setB 8 _).setB 11 _)
  have h5 := hV3.wroteL hK ((((hV3.hd.vs n).va n).lq (.slice p4 (s.queue.length - x) c4)).as { s with vs := n, va := n, queue := (s.queue.drop x), timer := s.timer } rfl) hq4 Stays.same Stays.same (.inl ⟨rfl, rfl⟩) ⟨hV3.sok.state, hn, hn, hV3.sok.vr, hV3.sok.vm, by show (s.queue.drop x).length ≤ 20; rw [List.length_drop]; have := hV3.sok.q20; omega, fun z hz => hV3.sok.q32 z (List.mem_of_mem_drop hz), hV3.sok.timer, hV3.sok.tries, hV3.sok.came⟩
  have hack := unhide HACK
  rw [if_pos hA, if_neg hBB] at hack
  rw [← hack] at h5
  have hbx : (((V3.setCell ⟨b, 7, none⟩ (.int .i64 (n : Nat))).setCell ⟨b, 8, none⟩ (.int .i64 (n : Nat))).setCell ⟨b, 11, none⟩ (.slice p4 (s.queue.length - x) c4)).heap[w.heap.size]? = some (.cells #[.int .i64 fa, .int .i64 1, .bool fp, .int .i64 fns, .int .i64 (n : Nat), .slice fq info.length fc] 30 (0, 0)) := by
    rw [hK.block w.heap.size (Array.getElem?_eq_some_iff.1 hAV3).1 hne]
    exact hAV3
  have H5 := hide h5
  have HBX := hide hbx
  have HU5 := hide (Upd.of hVb3 (hV3.upd hK))
  have hv5 : (((V3.setCell ⟨b, 7, none⟩ (.int .i64 (n : Nat))).setCell ⟨b, 8, none⟩ (.int .i64 (n : Nat))).setCell ⟨b, 11, none⟩ (.slice p4 (s.queue.length - x) c4)).ownsRow 0 5 1 (.slice fq info.length fc) info.length (Lib.byteCells info) := ownsRow_keepsB (ownsRow_keepsB hv (Keeps.of (X := fun _ => False) hVb3) (fun _ _ => id)) hK (fun k hk e => by have := (hfree k hk).1; rw [e, hV3.ownb] at this; exact tg_pos _ _ this)
  have HV5 := hide hv5
  have HF := hide hfree
  clear hv5 hv hfree
  have hAI : (z : Int) < (x : Int) := by omega
  have hBI : (0 : Int) < (x : Int) := by omega
  clear hack h5 hbx hK hV3 hAV3 hVb3 hq4 HACK hx hy hz h hok hgood hBB
  go_upto_region 24 with fail
  clear y0 y1 y2 y3 y4 y5 c7 c8 c11 c12 c14 fz hsl
  generalize (((V3.setCell ⟨b, 7, none⟩ (.int .i64 (n : Nat))).setCell ⟨b, 8, none⟩ (.int .i64 (n : Nat))).setCell ⟨b, 11, none⟩ (.slice p4 (s.queue.length - x) c4)) = V5 at *
  obtain ⟨y0, y1, y2, y3, y4, y5⟩ := frBox (unhide HBX)
  have hso := unhide HOK
  have hcok := (unhide H5).cok
  have hak := acknowledge_ok hcok hso h2 hn (unhide HGD)
  have hst5 : (acknowledge c n s).state = 2 := acknowledge_state.trans h2
  have hout5 : (acknowledge c n s).out.length + 32 ≤ 2199023255552 := by rw [acknowledge_out]; exact hl
  have hok6 := hearMsg_ok hcok hak hst5 (⟨fa, 1, fp, fns, (n : Nat), info⟩ : Fr)
  have hst6 := (hearMsg_state (c := c) (s := acknowledge c n s) (⟨fa, 1, fp, fns, (n : Nat), info⟩ : Fr)).trans hst5
  have ho6 := hearMsg_out (c := c) (s := acknowledge c n s) (⟨fa, 1, fp, fns, (n : Nat), info⟩ : Fr)
  have K6 := hide (message_ref (unhide H5) fa 1 fp fns (n : Nat) info fq fc (unhide HV5) (unhide HF) (by omega))
  have HK6 := hide (And.intro hok6 (And.intro hst6 (And.intro ho6 hout5)))
  clear hso hcok hak hst5 hout5 hok6 hst6 ho6
  go_wp2_with fail
  refine (unhide K6).mono ?_
  rintro e w6 ⟨rfl, own6, ⟨q6, cm6, o6, ev6, ce6, oe6, h6⟩, u6⟩
  obtain ⟨hok6, hst6, ho6, hout5⟩ := unhide HK6
  have K7 := hide (pump_ref h6 hok6 hst6 (by omega))
  have HU6 := hide ((unhide HU5).transT u6)
  clear K6 HK6 hok6 hst6 ho6 hout5 h6 u6 HU5 y0 y1 y2 y3 y4 y5
  go_wp2_with fail
  refine (unhide K7).mono ?_
  rintro e w7 ⟨rfl, own7, h7, u7⟩
  have HR := hide (And.intro h7 ((unhide HU6).trans u7))
  clear K7 h7 u7 HU6
  go_wp2
  first | go_end0 | refine bodyPost_ret (results_none rfl _ _ _) rfl ?_
  exact ⟨rfl, _, (unhide HR).1, (unhide HR).2⟩
set_option maxHeartbeats 8000000 in
set_option maxRecDepth 100000 in
theorem upg_s_nz (h : TAt w own i b c s cl q cm o ev ce oe) (hok : s.ok c) (h2 : s.state = 2) (fa fk : Int) (fp cm0 : Bool) (fns : Int) (n : Nat) (hn : n < c.m) (info : Msg) (fq : Option Addr) (fc : Nat) (n1 : (fk == 1) = false) (n5 : (fk == 5) = false) (n6 : (fk == 6) = false) (n7 : (fk == 7) = false) (n8 : (fk == 8) = false) (n9 : (fk == 9) = false) (hk3 : fk = 2 ∨ fk = 3 ∨ fk = 4) (hcmd : isCmd c (⟨fa, fk, fp, fns, (n : Nat), info⟩ : Fr) = cm0) (hgood : ahead c s n ≤ ahead c s s.vm) (hA : ¬ ahead c s s.vs < ahead c s n) (hB : ahead c s n = 0) (hl : s.out.length + 32 ≤ 2199023255552) :
    Calls Tryz.prog 126 #[.pointer (some ⟨b, 0, none⟩), .agg #[.int .i64 fa, .int .i64 fk, .bool fp, .int .i64 fns, .int .i64 (n : Nat), .slice fq info.length fc], .bool cm0] w fun e w' => TDid i b c (pump c (hearReady c (⟨fa, fk, fp, fns, (n : Nat), info⟩ : Fr) (acknowledge c n s))) cl own w e w' := by
  have HACK := hide (ack_ref h.cok hok hn)
  have HOK := hide hok
  have HGD : Hid (isGood c s n = true) := hide (by unfold isGood; exact decide_eq_true hgood)
  have hxq : ahead c s n ≤ s.queue.length := Nat.le_trans hgood hok.svm
  have hlt := h.lt
  have hn0 := h.new0 w.heap.size (Nat.le_refl _)
  have hA0 := alloc1_a w (.cells #[.int .i64 fa, .int .i64 fk, .bool fp, .int .i64 fns, .int .i64 (n : Nat), .slice fq info.length fc] 30)
  have hbA := (Below.refl w.heap.size w).alloc (Nat.le_refl _) (.cells #[.int .i64 fa, .int .i64 fk, .bool fp, .int .i64 fns, .int .i64 (n : Nat), .slice fq info.length fc] 30)
  go_enter Tryz.func126, Tryz.ntmps126
  go_upto_region 1 with fail
  generalize w.alloc (.cells #[.int .i64 fa, .int .i64 fk, .bool fp, .int .i64 fns, .int .i64 (n : Nat), .slice fq info.length fc] 30) = W0 at *
  have h0 := h.later hbA
  have k14 := fun N => away_ref (h0.drewN N) s.va n h0.sok.va hn
  have hah : (n + c.m - s.va) % c.m = ahead c s n := rfl
  rw [hah] at k14
  obtain ⟨y0, y1, y2, y3, y4, y5⟩ := frBox hA0
  have c8 : W0.cell? ⟨b, 8, none⟩ = some (.int .i64 s.va) := h0.cell 8 rfl
  have H0 := hide h0
  have HA0 := hide hA0
  have HBA := hide hbA
  clear h0 hA0 hbA hah
  generalize hx : ahead c s n = x at *
  go_wp2_with fail
  go_quiet (first | (go_at_call 133; exact Calls.quiet_of (k14 _)))
  have hV := (unhide H0).drewN nq
  have hVb : Below w.heap.size w (W0.drewN nq) := below_drewN (unhide HBA) nq
  have hAV : (W0.drewN nq).heap[w.heap.size]? = some (.cells #[.int .i64 fa, .int .i64 fk, .bool fp, .int .i64 fns, .int .i64 (n : Nat), .slice fq info.length fc] 30 (0, 0)) := unhide HA0
  clear H0 HA0 HBA k14 y0 y1 y2 y3 y4 y5 c8
  generalize W0.drewN nq = V at *
  have k15 := fun N => away_ref (hV.drewN N) s.va s.vm hV.sok.va hV.sok.vm
  have hah : (s.vm + c.m - s.va) % c.m = ahead c s s.vm := rfl
  rw [hah] at k15
  obtain ⟨y0, y1, y2, y3, y4, y5⟩ := frBox hAV
  have c8 : V.cell? ⟨b, 8, none⟩ = some (.int .i64 s.va) := hV.cell 8 rfl
  have c10 : V.cell? ⟨b, 10, none⟩ = some (.int .i64 s.vm) := hV.cell 10 rfl
  have H1 := hide hV
  have HAV := hide hAV
  have HVB := hide hVb
  clear hV hAV hVb hah
  generalize hy : ahead c s s.vm = y at *
  have hngt : ¬ (y : Int) < (x : Int) := by omega
  go_wp2_with fail
  go_quiet (first | (go_at_call 133; exact Calls.quiet_of (k15 _)))
  have hV := (unhide H1).drewN nq
  have hVb := below_drewN (unhide HVB) nq
  have hAV : (V.drewN nq).heap[w.heap.size]? = some (.cells #[.int .i64 fa, .int .i64 fk, .bool fp, .int .i64 fns, .int .i64 (n : Nat), .slice fq info.length fc] 30 (0, 0)) := unhide HAV
  clear H1 HVB HAV k15 y0 y1 y2 y3 y4 y5 c8 c10
  generalize V.drewN nq = V2 at *
  have k18 := fun N => away_ref (hV.drewN N) s.va s.vs hV.sok.va hV.sok.vs
  have hah : (s.vs + c.m - s.va) % c.m = ahead c s s.vs := rfl
  rw [hah] at k18
  have c7 : V2.cell? ⟨b, 7, none⟩ = some (.int .i64 s.vs) := hV.cell 7 rfl
  have c8 : V2.cell? ⟨b, 8, none⟩ = some (.int .i64 s.va) := hV.cell 8 rfl
  have H1 := hide hV
  have HAV := hide hAV
  have HVB := hide hVb
  clear hV hAV hVb hah
  generalize hz : ahead c s s.vs = z at *
  go_wp2_with fail
  go_quiet (first | (go_at_call 133; exact Calls.quiet_of (k18 _)))
  have hV3 := (unhide H1).drewN nq
  have hVb3 := below_drewN (unhide HVB) nq
  have hAV3 : (V2.drewN nq).heap[w.heap.size]? = some (.cells #[.int .i64 fa, .int .i64 fk, .bool fp, .int .i64 fns, .int .i64 (n : Nat), .slice fq info.length fc] 30 (0, 0)) := unhide HAV
  clear H1 HVB HAV k18 c7 c8
  generalize V2.drewN nq = V3 at *
  obtain ⟨y0, y1, y2, y3, y4, y5⟩ := frBox hAV3
  subst hB
  obtain ⟨p4, c4, hq4, hsl⟩ := hV3.lq.cut hxq
  rw [List.drop_zero] at hq4 hsl
  have hsl : ∀ W, (Instr.sliceAt 38 q (some (.int .i64 0)) none none).run Tryz.prog W = .ok (.slice p4 s.queue.length c4) W := hsl
  have c7 : V3.cell? ⟨b, 7, none⟩ = some (.int .i64 s.vs) := hV3.cell 7 rfl
  have c8 : V3.cell? ⟨b, 8, none⟩ = some (.int .i64 s.va) := hV3.cell 8 rfl
  have c11 : V3.cell? ⟨b, 11, none⟩ = some q := hV3.cell 11 rfl
  have c12 : V3.cell? ⟨b, 12, none⟩ = some (.int .i64 s.timer) := hV3.cell 12 rfl
  have c14 : V3.cell? ⟨b, 14, none⟩ = some (.bool s.polling) := hV3.cell 14 rfl
  skip
  have fz := hV3.fz
  have hne : ¬ w.heap.size = b := by omega
  have hne2 : ¬ b = w.heap.size := by omega
  have hBB : ¬ (0 < 0 ∧ s.polling = false) := fun hh => by omega
  have hK : Keeps (· = b) V3 ((V3.setCell ⟨b, 8, none⟩ (.int .i64 (n : Nat))).setCell ⟨b, 11, none⟩ (.slice p4 s.queue.length c4)) := (((Keeps.refl _ V3).setB 8 _).setB 11 _)
  have h5 := hV3.wroteL hK (((hV3.hd.va n).lq (.slice p4 s.queue.length c4)).as { s with vs := s.vs, va := n, queue := s.queue, timer := s.timer } rfl) hq4 Stays.same Stays.same (.inl ⟨rfl, rfl⟩) ⟨hV3.sok.state, hV3.sok.vs, hn, hV3.sok.vr, hV3.sok.vm, hV3.sok.q20, hV3.sok.q32, hV3.sok.timer, hV3.sok.tries, hV3.sok.came⟩
  have hack := unhide HACK
  rw [if_neg hA, if_neg hBB, List.drop_zero] at hack
  rw [← hack] at h5
  have hbx : ((V3.setCell ⟨b, 8, none⟩ (.int .i64 (n : Nat))).setCell ⟨b, 11, none⟩ (.slice p4 s.queue.length c4)).heap[w.heap.size]? = some (.cells #[.int .i64 fa, .int .i64 fk, .bool fp, .int .i64 fns, .int .i64 (n : Nat), .slice fq info.length fc] 30 (0, 0)) := by
    rw [hK.block w.heap.size (Array.getElem?_eq_some_iff.1 hAV3).1 hne]
    exact hAV3
  have H5 := hide h5
  have HBX := hide hbx
  have HU5 := hide (Upd.of hVb3 (hV3.upd hK))
  skip
  skip
  clear hack h5 hbx hK hV3 hAV3 hVb3 hq4 HACK hx hy hz h hok hgood hBB
  go_upto_region 24 with fail
  clear y0 y1 y2 y3 y4 y5 c7 c8 c11 c12 c14 fz hsl
  generalize ((V3.setCell ⟨b, 8, none⟩ (.int .i64 (n : Nat))).setCell ⟨b, 11, none⟩ (.slice p4 s.queue.length c4)) = V5 at *
  obtain ⟨y0, y1, y2, y3, y4, y5⟩ := frBox (unhide HBX)
  have hso := unhide HOK
  have hcok := (unhide H5).cok
  have hak := acknowledge_ok hcok hso h2 hn (unhide HGD)
  have hst5 : (acknowledge c n s).state = 2 := acknowledge_state.trans h2
  have hout5 : (acknowledge c n s).out.length + 32 ≤ 2199023255552 := by rw [acknowledge_out]; exact hl
  have hok6 := hearReady_ok hcok hak hst5 (⟨fa, fk, fp, fns, (n : Nat), info⟩ : Fr) (acknowledge_va hcok hso hn)
  have hst6 := (hearReady_state (c := c) (s := acknowledge c n s) (⟨fa, fk, fp, fns, (n : Nat), info⟩ : Fr)).trans hst5
  have ho6 := hearReady_out (c := c) (s := acknowledge c n s) (⟨fa, fk, fp, fns, (n : Nat), info⟩ : Fr)
  have k6 := supervised_ref (unhide H5) (⟨fa, fk, fp, fns, (n : Nat), info⟩ : Fr) cm0 n rfl hn hk3 hcmd fq fc (by omega)
  unfold frV at k6
  have K6 := hide k6
  clear k6
  have HK6 := hide (And.intro hok6 (And.intro hst6 (And.intro ho6 hout5)))
  clear hso hcok hak hst5 hout5 hok6 hst6 ho6
  go_wp2_with fail
  refine (unhide K6).mono ?_
  rintro e w6 ⟨rfl, own6, ⟨q6, cm6, o6, ev6, ce6, oe6, h6⟩, u6⟩
  obtain ⟨hok6, hst6, ho6, hout5⟩ := unhide HK6
  have K7 := hide (pump_ref h6 hok6 hst6 (by omega))
  have HU6 := hide ((unhide HU5).trans u6)
  clear K6 HK6 hok6 hst6 ho6 hout5 h6 u6 HU5 y0 y1 y2 y3 y4 y5
  go_wp2_with fail
  refine (unhide K7).mono ?_
  rintro e w7 ⟨rfl, own7, h7, u7⟩
  have HR := hide (And.intro h7 ((unhide HU6).trans u7))
  clear K7 h7 u7 HU6
  go_wp2
  first | go_end0 | refine bodyPost_ret (results_none rfl _ _ _) rfl ?_
  exact ⟨rfl, _, (unhide HR).1, (unhide HR).2⟩
set_option maxHeartbeats 8000000 in
set_option maxRecDepth 100000 in
theorem upg_s_nt (h : TAt w own i b c s cl q cm o ev ce oe) (hok : s.ok c) (h2 : s.state = 2) (fa fk : Int) (fp cm0 : Bool) (fns : Int) (n : Nat) (hn : n < c.m) (info : Msg) (fq : Option Addr) (fc : Nat) (n1 : (fk == 1) = false) (n5 : (fk == 5) = false) (n6 : (fk == 6) = false) (n7 : (fk == 7) = false) (n8 : (fk == 8) = false) (n9 : (fk == 9) = false) (hk3 : fk = 2 ∨ fk = 3 ∨ fk = 4) (hcmd : isCmd c (⟨fa, fk, fp, fns, (n : Nat), info⟩ : Fr) = cm0) (hgood : ahead c s n ≤ ahead c s s.vm) (hA : ¬ ahead c s s.vs < ahead c s n) (hB : 0 < ahead c s n) (hpol : s.polling = false) (hl : s.out.length + 32 ≤ 2199023255552) :
    Calls Tryz.prog 126 #[.pointer (some ⟨b, 0, none⟩), .agg #[.int .i64 fa, .int .i64 fk, .bool fp, .int .i64 fns, .int .i64 (n : Nat), .slice fq info.length fc], .bool cm0] w fun e w' => TDid i b c (pump c (hearReady c (⟨fa, fk, fp, fns, (n : Nat), info⟩ : Fr) (acknowledge c n s))) cl own w e w' := by
  have HACK := hide (ack_ref h.cok hok hn)
  have HOK := hide hok
  have HGD : Hid (isGood c s n = true) := hide (by unfold isGood; exact decide_eq_true hgood)
  have hxq : ahead c s n ≤ s.queue.length := Nat.le_trans hgood hok.svm
  have hlt := h.lt
  have hn0 := h.new0 w.heap.size (Nat.le_refl _)
  have hA0 := alloc1_a w (.cells #[.int .i64 fa, .int .i64 fk, .bool fp, .int .i64 fns, .int .i64 (n : Nat), .slice fq info.length fc] 30)
  have hbA := (Below.refl w.heap.size w).alloc (Nat.le_refl _) (.cells #[.int .i64 fa, .int .i64 fk, .bool fp, .int .i64 fns, .int .i64 (n : Nat), .slice fq info.length fc] 30)
  go_enter Tryz.func126, Tryz.ntmps126
  go_upto_region 1 with fail
  generalize w.alloc (.cells #[.int .i64 fa, .int .i64 fk, .bool fp, .int .i64 fns, .int .i64 (n : Nat), .slice fq info.length fc] 30) = W0 at *
  have h0 := h.later hbA
  have k14 := fun N => away_ref (h0.drewN N) s.va n h0.sok.va hn
  have hah : (n + c.m - s.va) % c.m = ahead c s n := rfl
  rw [hah] at k14
  obtain ⟨y0, y1, y2, y3, y4, y5⟩ := frBox hA0
  have c8 : W0.cell? ⟨b, 8, none⟩ = some (.int .i64 s.va) := h0.cell 8 rfl
  have H0 := hide h0
  have HA0 := hide hA0
  have HBA := hide hbA
  clear h0 hA0 hbA hah
  generalize hx : ahead c s n = x at *
  go_wp2_with fail
  go_quiet (first | (go_at_call 133; exact Calls.quiet_of (k14 _)))
  have hV := (unhide H0).drewN nq
  have hVb : Below w.heap.size w (W0.drewN nq) := below_drewN (unhide HBA) nq
  have hAV : (W0.drewN nq).heap[w.heap.size]? = some (.cells #[.int .i64 fa, .int .i64 fk, .bool fp, .int .i64 fns, .int .i64 (n : Nat), .slice fq info.length fc] 30 (0, 0)) := unhide HA0
  clear H0 HA0 HBA k14 y0 y1 y2 y3 y4 y5 c8
  generalize W0.drewN nq = V at *
  have k15 := fun N => away_ref (hV.drewN N) s.va s.vm hV.sok.va hV.sok.vm
  have hah : (s.vm + c.m - s.va) % c.m = ahead c s s.vm := rfl
  rw [hah] at k15
  obtain ⟨y0, y1, y2, y3, y4, y5⟩ := frBox hAV
  have c8 : V.cell? ⟨b, 8, none⟩ = some (.int .i64 s.va) := hV.cell 8 rfl
  have c10 : V.cell? ⟨b, 10, none⟩ = some (.int .i64 s.vm) := hV.cell 10 rfl
  have H1 := hide hV
  have HAV := hide hAV
  have HVB := hide hVb
  clear hV hAV hVb hah
  generalize hy : ahead c s s.vm = y at *
  have hngt : ¬ (y : Int) < (x : Int) := by omega
  go_wp2_with fail
  go_quiet (first | (go_at_call 133; exact Calls.quiet_of (k15 _)))
  have hV := (unhide H1).drewN nq
  have hVb := below_drewN (unhide HVB) nq
  have hAV : (V.drewN nq).heap[w.heap.size]? = some (.cells #[.int .i64 fa, .int .i64 fk, .bool fp, .int .i64 fns, .int .i64 (n : Nat), .slice fq info.length fc] 30 (0, 0)) := unhide HAV
  clear H1 HVB HAV k15 y0 y1 y2 y3 y4 y5 c8 c10
  generalize V.drewN nq = V2 at *
  have k18 := fun N => away_ref (hV.drewN N) s.va s.vs hV.sok.va hV.sok.vs
  have hah : (s.vs + c.m - s.va) % c.m = ahead c s s.vs := rfl
  rw [hah] at k18
  have c7 : V2.cell? ⟨b, 7, none⟩ = some (.int .i64 s.vs) := hV.cell 7 rfl
  have c8 : V2.cell? ⟨b, 8, none⟩ = some (.int .i64 s.va) := hV.cell 8 rfl
  have H1 := hide hV
  have HAV := hide hAV
  have HVB := hide hVb
  clear hV hAV hVb hah
  generalize hz : ahead c s s.vs = z at *
  go_wp2_with fail
  go_quiet (first | (go_at_call 133; exact Calls.quiet_of (k18 _)))
  have hV3 := (unhide H1).drewN nq
  have hVb3 := below_drewN (unhide HVB) nq
  have hAV3 : (V2.drewN nq).heap[w.heap.size]? = some (.cells #[.int .i64 fa, .int .i64 fk, .bool fp, .int .i64 fns, .int .i64 (n : Nat), .slice fq info.length fc] 30 (0, 0)) := unhide HAV
  clear H1 HVB HAV k18 c7 c8
  generalize V2.drewN nq = V3 at *
  obtain ⟨y0, y1, y2, y3, y4, y5⟩ := frBox hAV3
  skip
  obtain ⟨p4, c4, hq4, hsl⟩ := hV3.lq.cut hxq
  rw [List.length_drop] at hq4 hsl
  skip
  have c7 : V3.cell? ⟨b, 7, none⟩ = some (.int .i64 s.vs) := hV3.cell 7 rfl
  have c8 : V3.cell? ⟨b, 8, none⟩ = some (.int .i64 s.va) := hV3.cell 8 rfl
  have c11 : V3.cell? ⟨b, 11, none⟩ = some q := hV3.cell 11 rfl
  have c12 : V3.cell? ⟨b, 12, none⟩ = some (.int .i64 s.timer) := hV3.cell 12 rfl
  have c14 : V3.cell? ⟨b, 14, none⟩ = some (.bool s.polling) := hV3.cell 14 rfl
  rw [hpol] at c14
  have fz := hV3.fz
  have hne : ¬ w.heap.size = b := by omega
  have hne2 : ¬ b = w.heap.size := by omega
  have hBB : 0 < x ∧ s.polling = false := ⟨by omega, hpol⟩
  have hK : Keeps (· = b) V3 (((V3.setCell ⟨b, 8, none⟩ (.int .i64 (n : Nat))).setCell ⟨b, 11, none⟩ (.slice p4 (s.queue.length - x) c4)).setCell ⟨b, 12, none⟩ (.int .i64 0)) := ((((Keeps.refl _ V3).setB 8 _).setB 11 _).setB 12 _)
  have h5 := hV3.wroteL hK ((((hV3.hd.va n).lq (.slice p4 (s.queue.length - x) c4)).timer 0).as { s with vs := s.vs, va := n, queue := (s.queue.drop x), timer := 0 } rfl) hq4 Stays.same Stays.same (.inl ⟨rfl, rfl⟩) ⟨hV3.sok.state, hV3.sok.vs, hn, hV3.sok.vr, hV3.sok.vm, by show (s.queue.drop x).length ≤ 20; rw [List.length_drop]; have := hV3.sok.q20; omega, fun z hz => hV3.sok.q32 z (List.mem_of_mem_drop hz), Nat.zero_le _, hV3.sok.tries, hV3.sok.came⟩
  have hack := unhide HACK
  rw [if_neg hA, if_pos hBB] at hack
  rw [← hack] at h5
  have hbx : (((V3.setCell ⟨b, 8, none⟩ (.int .i64 (n : Nat))).setCell ⟨b, 11, none⟩ (.slice p4 (s.queue.length - x) c4)).setCell ⟨b, 12, none⟩ (.int .i64 0)).heap[w.heap.size]? = some (.cells #[.int .i64 fa, .int .i64 fk, .bool fp, .int .i64 fns, .int .i64 (n : Nat), .slice fq info.length fc] 30 (0, 0)) := by
    rw [hK.block w.heap.size (Array.getElem?_eq_some_iff.1 hAV3).1 hne]
    exact hAV3
  have H5 := hide h5
  have HBX := hide hbx
  have HU5 := hide (Upd.of hVb3 (hV3.upd hK))
  have hAI : ¬ (z : Int) < (x : Int) := by omega
  have hBI : (0 : Int) < (x : Int) := by omega
  clear hack h5 hbx hK hV3 hAV3 hVb3 hq4 HACK hx hy hz h hok hgood hBB
  go_upto_region 24 with fail
  clear y0 y1 y2 y3 y4 y5 c7 c8 c11 c12 c14 fz hsl
  generalize (((V3.setCell ⟨b, 8, none⟩ (.int .i64 (n : Nat))).setCell ⟨b, 11, none⟩ (.slice p4 (s.queue.length - x) c4)).setCell ⟨b, 12, none⟩ (.int .i64 0)) = V5 at *
  obtain ⟨y0, y1, y2, y3, y4, y5⟩ := frBox (unhide HBX)
  have hso := unhide HOK
  have hcok := (unhide H5).cok
  have hak := acknowledge_ok hcok hso h2 hn (unhide HGD)
  have hst5 : (acknowledge c n s).state = 2 := acknowledge_state.trans h2
  have hout5 : (acknowledge c n s).out.length + 32 ≤ 2199023255552 := by rw [acknowledge_out]; exact hl
  have hok6 := hearReady_ok hcok hak hst5 (⟨fa, fk, fp, fns, (n : Nat), info⟩ : Fr) (acknowledge_va hcok hso hn)
  have hst6 := (hearReady_state (c := c) (s := acknowledge c n s) (⟨fa, fk, fp, fns, (n : Nat), info⟩ : Fr)).trans hst5
  have ho6 := hearReady_out (c := c) (s := acknowledge c n s) (⟨fa, fk, fp, fns, (n : Nat), info⟩ : Fr)
  have k6 := supervised_ref (unhide H5) (⟨fa, fk, fp, fns, (n : Nat), info⟩ : Fr) cm0 n rfl hn hk3 hcmd fq fc (by omega)
  unfold frV at k6
  have K6 := hide k6
  clear k6
  have HK6 := hide (And.intro hok6 (And.intro hst6 (And.intro ho6 hout5)))
  clear hso hcok hak hst5 hout5 hok6 hst6 ho6
  go_wp2_with fail
  refine (unhide K6).mono ?_
  rintro e w6 ⟨rfl, own6, ⟨q6, cm6, o6, ev6, ce6, oe6, h6⟩, u6⟩
  obtain ⟨hok6, hst6, ho6, hout5⟩ := unhide HK6
  have K7 := hide (pump_ref h6 hok6 hst6 (by omega))
  have HU6 := hide ((unhide HU5).trans u6)
  clear K6 HK6 hok6 hst6 ho6 hout5 h6 u6 HU5 y0 y1 y2 y3 y4 y5
  go_wp2_with fail
  refine (unhide K7).mono ?_
  rintro e w7 ⟨rfl, own7, h7, u7⟩
  have HR := hide (And.intro h7 ((unhide HU6).trans u7))
  clear K7 h7 u7 HU6
  go_wp2
  first | go_end0 | refine bodyPost_ret (results_none rfl _ _ _) rfl ?_
  exact ⟨rfl, _, (unhide HR).1, (unhide HR).2⟩
set_option maxHeartbeats 8000000 in
set_option maxRecDepth 100000 in
theorem upg_s_np (h : TAt w own i b c s cl q cm o ev ce oe) (hok : s.ok c) (h2 : s.state = 2) (fa fk : Int) (fp cm0 : Bool) (fns : Int) (n : Nat) (hn : n < c.m) (info : Msg) (fq : Option Addr) (fc : Nat) (n1 : (fk == 1) = false) (n5 : (fk == 5) = false) (n6 : (fk == 6) = false) (n7 : (fk == 7) = false) (n8 : (fk == 8) = false) (n9 : (fk == 9) = false) (hk3 : fk = 2 ∨ fk = 3 ∨ fk = 4) (hcmd : isCmd c (⟨fa, fk, fp, fns, (n : Nat), info⟩ : Fr) = cm0) (hgood : ahead c s n ≤ ahead c s s.vm) (hA : ¬ ahead c s s.vs < ahead c s n) (hB : 0 < ahead c s n) (hpol : s.polling = true) (hl : s.out.length + 32 ≤ 2199023255552) :
    Calls Tryz.prog 126 #[.pointer (some ⟨b, 0, none⟩), .agg #[.int .i64 fa, .int .i64 fk, .bool fp, .int .i64 fns, .int .i64 (n : Nat), .slice fq info.length fc], .bool cm0] w fun e w' => TDid i b c (pump c (hearReady c (⟨fa, fk, fp, fns, (n : Nat), info⟩ : Fr) (acknowledge c n s))) cl own w e w' := by
  have HACK := hide (ack_ref h.cok hok hn)
  have HOK := hide hok
  have HGD : Hid (isGood c s n = true) := hide (by unfold isGood; exact decide_eq_true hgood)
  have hxq : ahead c s n ≤ s.queue.length := Nat.le_trans hgood hok.svm
  have hlt := h.lt
  have hn0 := h.new0 w.heap.size (Nat.le_refl _)
  have hA0 := alloc1_a w (.cells #[.int .i64 fa, .int .i64 fk, .bool fp, .int .i64 fns, .int .i64 (n : Nat), .slice fq info.length fc] 30)
  have hbA := (Below.refl w.heap.size w).alloc (Nat.le_refl _) (.cells #[.int .i64 fa, .int .i64 fk, .bool fp, .int .i64 fns, .int .i64 (n : Nat), .slice fq info.length fc] 30)
  go_enter Tryz.func126, Tryz.ntmps126
  go_upto_region 1 with fail
  generalize w.alloc (.cells #[.int .i64 fa, .int .i64 fk, .bool fp, .int .i64 fns, .int .i64 (n : Nat), .slice fq info.length fc] 30) = W0 at *
  have h0 := h.later hbA
  have k14 := fun N => away_ref (h0.drewN N) s.va n h0.sok.va hn
  have hah : (n + c.m - s.va) % c.m = ahead c s n := rfl
  rw [hah] at k14
  obtain ⟨y0, y1, y2, y3, y4, y5⟩ := frBox hA0
  have c8 : W0.cell? ⟨b, 8, none⟩ = some (.int .i64 s.va) := h0.cell 8 rfl
  have H0 := hide h0
  have HA0 := hide hA0
  have HBA := hide hbA
  clear h0 hA0 hbA hah
  generalize hx : ahead c s n = x at *
  go_wp2_with fail
  go_quiet (first | (go_at_call 133; exact Calls.quiet_of (k14 _)))
  have hV := (unhide H0).drewN nq
  have hVb : Below w.heap.size w (W0.drewN nq) := below_drewN (unhide HBA) nq
  have hAV : (W0.drewN nq).heap[w.heap.size]? = some (.cells #[.int .i64 fa, .int .i64 fk, .bool fp, .int .i64 fns, .int .i64 (n : Nat), .slice fq info.length fc] 30 (0, 0)) := unhide HA0
  clear H0 HA0 HBA k14 y0 y1 y2 y3 y4 y5 c8
  generalize W0.drewN nq = V at *
  have k15 := fun N => away_ref (hV.drewN N) s.va s.vm hV.sok.va hV.sok.vm
  have hah : (s.vm + c.m - s.va) % c.m = ahead c s s.vm := rfl
  rw [hah] at k15
  obtain ⟨y0, y1, y2, y3, y4, y5⟩ := frBox hAV
  have c8 : V.cell? ⟨b, 8, none⟩ = some (.int .i64 s.va) := hV.cell 8 rfl
  have c10 : V.cell? ⟨b, 10, none⟩ = some (.int .i64 s.vm) := hV.cell 10 rfl
  have H1 := hide hV
  have HAV := hide hAV
  have HVB := hide hVb
  clear hV hAV hVb hah
  generalize hy : ahead c s s.vm = y at *
  have hngt : ¬ (y : Int) < (x : Int) := by omega
  go_wp2_with fail
  go_quiet (first | (go_at_call 133; exact Calls.quiet_of (k15 _)))
  have hV := (unhide H1).drewN nq
  have hVb := below_drewN (unhide HVB) nq
  have hAV : (V.drewN nq).heap[w.heap.size]? = some (.cells #[.int .i64 fa, .int .i64 fk, .bool fp, .int .i64 fns, .int .i64 (n : Nat), .slice fq info.length fc] 30 (0, 0)) := unhide HAV
  clear H1 HVB HAV k15 y0 y1 y2 y3 y4 y5 c8 c10
  generalize V.drewN nq = V2 at *
  have k18 := fun N => away_ref (hV.drewN N) s.va s.vs hV.sok.va hV.sok.vs
  have hah : (s.vs + c.m - s.va) % c.m = ahead c s s.vs := rfl
  rw [hah] at k18
  have c7 : V2.cell? ⟨b, 7, none⟩ = some (.int .i64 s.vs) := hV.cell 7 rfl
  have c8 : V2.cell? ⟨b, 8, none⟩ = some (.int .i64 s.va) := hV.cell 8 rfl
  have H1 := hide hV
  have HAV := hide hAV
  have HVB := hide hVb
  clear hV hAV hVb hah
  generalize hz : ahead c s s.vs = z at *
  go_wp2_with fail
  go_quiet (first | (go_at_call 133; exact Calls.quiet_of (k18 _)))
  have hV3 := (unhide H1).drewN nq
  have hVb3 := below_drewN (unhide HVB) nq
  have hAV3 : (V2.drewN nq).heap[w.heap.size]? = some (.cells #[.int .i64 fa, .int .i64 fk, .bool fp, .int .i64 fns, .int .i64 (n : Nat), .slice fq info.length fc] 30 (0, 0)) := unhide HAV
  clear H1 HVB HAV k18 c7 c8
  generalize V2.drewN nq = V3 at *
  obtain ⟨y0, y1, y2, y3, y4, y5⟩ := frBox hAV3
  skip
  obtain ⟨p4, c4, hq4, hsl⟩ := hV3.lq.cut hxq
  rw [List.length_drop] at hq4 hsl
  skip
  have c7 : V3.cell? ⟨b, 7, none⟩ = some (.int .i64 s.vs) := hV3.cell 7 rfl
  have c8 : V3.cell? ⟨b, 8, none⟩ = some (.int .i64 s.va) := hV3.cell 8 rfl
  have c11 : V3.cell? ⟨b, 11, none⟩ = some q := hV3.cell 11 rfl
  have c12 : V3.cell? ⟨b, 12, none⟩ = some (.int .i64 s.timer) := hV3.cell 12 rfl
  have c14 : V3.cell? ⟨b, 14, none⟩ = some (.bool s.polling) := hV3.cell 14 rfl
  rw [hpol] at c14
  have fz := hV3.fz
  have hne : ¬ w.heap.size = b := by omega
  have hne2 : ¬ b = w.heap.size := by omega
  have hBB : ¬ (0 < x ∧ s.polling = false) := fun hh => by rw [hpol] at hh; cases hh.2
  have hK : Keeps (· = b) V3 ((V3.setCell ⟨b, 8, none⟩ (.int .i64 (n : Nat))).setCell ⟨b, 11, none⟩ (.slice p4 (s.queue.length - x) c4)) := (((Keeps.refl _ V3).setB 8 _).setB 11 _)
  have h5 := hV3.wroteL hK (((hV3.hd.va n).lq (.slice p4 (s.queue.length - x) c4)).as { s with vs := s.vs, va := n, queue := (s.queue.drop x), timer := s.timer } rfl) hq4 Stays.same Stays.same (.inl ⟨rfl, rfl⟩) ⟨hV3.sok.state, hV3.sok.vs, hn, hV3.sok.vr, hV3.sok.vm, by show (s.queue.drop x).length ≤ 20; rw [List.length_drop]; have := hV3.sok.q20; omega, fun z hz => hV3.sok.q32 z (List.mem_of_mem_drop hz), hV3.sok.timer, hV3.sok.tries, hV3.sok.came⟩
  have hack := unhide HACK
  rw [if_neg hA, if_neg hBB] at hack
  rw [← hack] at h5
  have hbx : ((V3.setCell ⟨b, 8, none⟩ (.int .i64 (n : Nat))).setCell ⟨b, 11, none⟩ (.slice p4 (s.queue.length - x) c4)).heap[w.heap.size]? = some (.cells #[.int .i64 fa, .int .i64 fk, .bool fp, .int .i64 fns, .int .i64 (n : Nat), .slice fq info.length fc] 30 (0, 0)) := by
    rw [hK.block w.heap.size (Array.getElem?_eq_some_iff.1 hAV3).1 hne]
    exact hAV3
  have H5 := hide h5
  have HBX := hide hbx
  have HU5 := hide (Upd.of hVb3 (hV3.upd hK))
  have hAI : ¬ (z : Int) < (x : Int) := by omega
  have hBI : (0 : Int) < (x : Int) := by omega
  clear hack h5 hbx hK hV3 hAV3 hVb3 hq4 HACK hx hy hz h hok hgood hBB
  go_upto_region 24 with fail
  clear y0 y1 y2 y3 y4 y5 c7 c8 c11 c12 c14 fz hsl
  generalize ((V3.setCell ⟨b, 8, none⟩ (.int .i64 (n : Nat))).setCell ⟨b, 11, none⟩ (.slice p4 (s.queue.length - x) c4)) = V5 at *
  obtain ⟨y0, y1, y2, y3, y4, y5⟩ := frBox (unhide HBX)
  have hso := unhide HOK
  have hcok := (unhide H5).cok
  have hak := acknowledge_ok hcok hso h2 hn (unhide HGD)
  have hst5 : (acknowledge c n s).state = 2 := acknowledge_state.trans h2
  have hout5 : (acknowledge c n s).out.length + 32 ≤ 2199023255552 := by rw [acknowledge_out]; exact hl
  have hok6 := hearReady_ok hcok hak hst5 (⟨fa, fk, fp, fns, (n : Nat), info⟩ : Fr) (acknowledge_va hcok hso hn)
  have hst6 := (hearReady_state (c := c) (s := acknowledge c n s) (⟨fa, fk, fp, fns, (n : Nat), info⟩ : Fr)).trans hst5
  have ho6 := hearReady_out (c := c) (s := acknowledge c n s) (⟨fa, fk, fp, fns, (n : Nat), info⟩ : Fr)
  have k6 := supervised_ref (unhide H5) (⟨fa, fk, fp, fns, (n : Nat), info⟩ : Fr) cm0 n rfl hn hk3 hcmd fq fc (by omega)
  unfold frV at k6
  have K6 := hide k6
  clear k6
  have HK6 := hide (And.intro hok6 (And.intro hst6 (And.intro ho6 hout5)))
  clear hso hcok hak hst5 hout5 hok6 hst6 ho6
  go_wp2_with fail
  refine (unhide K6).mono ?_
  rintro e w6 ⟨rfl, own6, ⟨q6, cm6, o6, ev6, ce6, oe6, h6⟩, u6⟩
  obtain ⟨hok6, hst6, ho6, hout5⟩ := unhide HK6
  have K7 := hide (pump_ref h6 hok6 hst6 (by omega))
  have HU6 := hide ((unhide HU5).trans u6)
  clear K6 HK6 hok6 hst6 ho6 hout5 h6 u6 HU5 y0 y1 y2 y3 y4 y5
  go_wp2_with fail
  refine (unhide K7).mono ?_
  rintro e w7 ⟨rfl, own7, h7, u7⟩
  have HR := hide (And.intro h7 ((unhide HU6).trans u7))
  clear K7 h7 u7 HU6
  go_wp2
  first | go_end0 | refine bodyPost_ret (results_none rfl _ _ _) rfl ?_
  exact ⟨rfl, _, (unhide HR).1, (unhide HR).2⟩
set_option maxHeartbeats 8000000 in
set_option maxRecDepth 100000 in
theorem upg_s_at (h : TAt w own i b c s cl q cm o ev ce oe) (hok : s.ok c) (h2 : s.state = 2) (fa fk : Int) (fp cm0 : Bool) (fns : Int) (n : Nat) (hn : n < c.m) (info : Msg) (fq : Option Addr) (fc : Nat) (n1 : (fk == 1) = false) (n5 : (fk == 5) = false) (n6 : (fk == 6) = false) (n7 : (fk == 7) = false) (n8 : (fk == 8) = false) (n9 : (fk == 9) = false) (hk3 : fk = 2 ∨ fk = 3 ∨ fk = 4) (hcmd : isCmd c (⟨fa, fk, fp, fns, (n : Nat), info⟩ : Fr) = cm0) (hgood : ahead c s n ≤ ahead c s s.vm) (hA : ahead c s s.vs < ahead c s n) (hB : 0 < ahead c s n) (hpol : s.polling = false) (hl : s.out.length + 32 ≤ 2199023255552) :
    Calls Tryz.prog 126 #[.pointer (some ⟨b, 0, none⟩), .agg #[.int .i64 fa, .int .i64 fk, .bool fp, .int .i64 fns, .int .i64 (n : Nat), .slice fq info.length fc], .bool cm0] w fun e w' => TDid i b c (pump c (hearReady c (⟨fa, fk, fp, fns, (n : Nat), info⟩ : Fr) (acknowledge c n s))) cl own w e w' := by
  have HACK := hide (ack_ref h.cok hok hn)
  have HOK := hide hok
  have HGD : Hid (isGood c s n = true) := hide (by unfold isGood; exact decide_eq_true hgood)
  have hxq : ahead c s n ≤ s.queue.length := Nat.le_trans hgood hok.svm
  have hlt := h.lt
  have hn0 := h.new0 w.heap.size (Nat.le_refl _)
  have hA0 := alloc1_a w (.cells #[.int .i64 fa, .int .i64 fk, .bool fp, .int .i64 fns, .int .i64 (n : Nat), .slice fq info.length fc] 30)
  have hbA := (Below.refl w.heap.size w).alloc (Nat.le_refl _) (.cells #[.int .i64 fa, .int .i64 fk, .bool fp, .int .i64 fns, .int .i64 (n : Nat), .slice fq info.length fc] 30)
  go_enter Tryz.func126, Tryz.ntmps126
  go_upto_region 1 with fail
  generalize w.alloc (.cells #[.int .i64 fa, .int .i64 fk, .bool fp, .int .i64 fns, .int .i64 (n : Nat), .slice fq info.length fc] 30) = W0 at *
  have h0 := h.later hbA
  have k14 := fun N => away_ref (h0.drewN N) s.va n h0.sok.va hn
  have hah : (n + c.m - s.va) % c.m = ahead c s n := rfl
  rw [hah] at k14
  obtain ⟨y0, y1, y2, y3, y4, y5⟩ := frBox hA0
  have c8 : W0.cell? ⟨b, 8, none⟩ = some (.int .i64 s.va) := h0.cell 8 rfl
  have H0 := hide h0
  have HA0 := hide hA0
  have HBA := hide hbA
  clear h0 hA0 hbA hah
  generalize hx : ahead c s n = x at *
  go_wp2_with fail
  go_quiet (first | (go_at_call 133; exact Calls.quiet_of (k14 _)))
  have hV := (unhide H0).drewN nq
  have hVb : Below w.heap.size w (W0.drewN nq) := below_drewN (unhide HBA) nq
  have hAV : (W0.drewN nq).heap[w.heap.size]? = some (.cells #[.int .i64 fa, .int .i64 fk, .bool fp, .int .i64 fns, .int .i64 (n : Nat), .slice fq info.length fc] 30 (0, 0)) := unhide HA0
  clear H0 HA0 HBA k14 y0 y1 y2 y3 y4 y5 c8
  generalize W0.drewN nq = V at *
  have k15 := fun N => away_ref (hV.drewN N) s.va s.vm hV.sok.va hV.sok.vm
  have hah : (s.vm + c.m - s.va) % c.m = ahead c s s.vm := rfl
  rw [hah] at k15
  obtain ⟨y0, y1, y2, y3, y4, y5⟩ := frBox hAV
  have c8 : V.cell? ⟨b, 8, none⟩ = some (.int .i64 s.va) := hV.cell 8 rfl
  have c10 : V.cell? ⟨b, 10, none⟩ = some (.int .i64 s.vm) := hV.cell 10 rfl
  have H1 := hide hV
  have HAV := hide hAV
  have HVB := hide hVb
  clear hV hAV hVb hah
  generalize hy : ahead c s s.vm = y at *
  have hngt : ¬ (y : Int) < (x : Int) := by omega
  go_wp2_with fail
  go_quiet (first | (go_at_call 133; exact Calls.quiet_of (k15 _)))
  have hV := (unhide H1).drewN nq
  have hVb := below_drewN (unhide HVB) nq
  have hAV : (V.drewN nq).heap[w.heap.size]? = some (.cells #[.int .i64 fa, .int .i64 fk, .bool fp, .int .i64 fns, .int .i64 (n : Nat), .slice fq info.length fc] 30 (0, 0)) := unhide HAV
  clear H1 HVB HAV k15 y0 y1 y2 y3 y4 y5 c8 c10
  generalize V.drewN nq = V2 at *
  have k18 := fun N => away_ref (hV.drewN N) s.va s.vs hV.sok.va hV.sok.vs
  have hah : (s.vs + c.m - s.va) % c.m = ahead c s s.vs := rfl
  rw [hah] at k18
  have c7 : V2.cell? ⟨b, 7, none⟩ = some (.int .i64 s.vs) := hV.cell 7 rfl
  have c8 : V2.cell? ⟨b, 8, none⟩ = some (.int .i64 s.va) := hV.cell 8 rfl
  have H1 := hide hV
  have HAV := hide hAV
  have HVB := hide hVb
  clear hV hAV hVb hah
  generalize hz : ahead c s s.vs = z at *
  go_wp2_with fail
  go_quiet (first | (go_at_call 133; exact Calls.quiet_of (k18 _)))
  have hV3 := (unhide H1).drewN nq
  have hVb3 := below_drewN (unhide HVB) nq
  have hAV3 : (V2.drewN nq).heap[w.heap.size]? = some (.cells #[.int .i64 fa, .int .i64 fk, .bool fp, .int .i64 fns, .int .i64 (n : Nat), .slice fq info.length fc] 30 (0, 0)) := unhide HAV
  clear H1 HVB HAV k18 c7 c8
  generalize V2.drewN nq = V3 at *
  obtain ⟨y0, y1, y2, y3, y4, y5⟩ := frBox hAV3
  skip
  obtain ⟨p4, c4, hq4, hsl⟩ := hV3.lq.cut hxq
  rw [List.length_drop] at hq4 hsl
  skip
  have c7 : V3.cell? ⟨b, 7, none⟩ = some (.int .i64 s.vs) := hV3.cell 7 rfl
  have c8 : V3.cell? ⟨b, 8, none⟩ = some (.int .i64 s.va) := hV3.cell 8 rfl
  have c11 : V3.cell? ⟨b, 11, none⟩ = some q := hV3.cell 11 rfl
  have c12 : V3.cell? ⟨b, 12, none⟩ = some (.int .i64 s.timer) := hV3.cell 12 rfl
  have c14 : V3.cell? ⟨b, 14, none⟩ = some (.bool s.polling) := hV3.cell 14 rfl
  rw [hpol] at c14
  have fz := hV3.fz
  have hne : ¬ w.heap.size = b := by omega
  have hne2 : ¬ b = w.heap.size := by omega
  have hBB : 0 < x ∧ s.polling = false := ⟨by omega, hpol⟩
  have hK : Keeps (· = b) V3 ((((V3.setCell ⟨b, 7, none⟩ (.int .i64 (n : Nat))).setCell ⟨b, 8, none⟩ (.int .i64 (n : Nat))).setCell ⟨b, 11, none⟩ (.slice p4 (s.queue.length - x) c4)).setCell ⟨b, 12, none⟩ (.int .i64 0)) := (((((Keeps.refl _ V3).setB 7 _).setB 8 _).setB 11 _).setB 12 _)
  have h5 := hV3.wroteL hK (((((hV3.hd.vs n).va n).lq (.slice p4 (s.queue.length - x) c4)).timer 0).as { s with vs := n, va := n, queue := (s.queue.drop x), timer := 0 } rfl) hq4 Stays.same Stays.same (.inl ⟨rfl, rfl⟩) ⟨hV3.sok.state, hn, hn, hV3.sok.vr, hV3.sok.vm, by show (s.queue.drop x).length ≤ 20; rw [List.length_drop]; have := hV3.sok.q20; omega, fun z hz => hV3.sok.q32 z (List.mem_of_mem_drop hz), Nat.zero_le _, hV3.sok.tries, hV3.sok.came⟩
  have hack := unhide HACK
  rw [if_pos hA, if_pos hBB] at hack
  rw [← hack] at h5
  have hbx : ((((V3.setCell ⟨b, 7, none⟩ (.int .i64 (n : Nat))).setCell ⟨b, 8, none⟩ (.int .i64 (n : Nat))).setCell ⟨b, 11, none⟩ (.slice p4 (s.queue.length - x) c4)).setCell ⟨b, 12, none⟩ (.int .i64 0)).heap[w.heap.size]? = some (.cells #[.int .i64 fa, .int .i64 fk, .bool fp, .int .i64 fns, .int .i64 (n : Nat), .slice fq info.length fc] 30 (0, 0)) := by
    rw [hK.block w.heap.size (Array.getElem?_eq_some_iff.1 hAV3).1 hne]
    exact hAV3
  have H5 := hide h5
  have HBX := hide hbx
  have HU5 := hide (Upd.of hVb3 (hV3.upd hK))
  have hAI : (z : Int) < (x : Int) := by omega
  have hBI : (0 : Int) < (x : Int) := by omega
  clear hack h5 hbx hK hV3 hAV3 hVb3 hq4 HACK hx hy hz h hok hgood hBB
  go_upto_region 24 with fail
  clear y0 y1 y2 y3 y4 y5 c7 c8 c11 c12 c14 fz hsl
  generalize ((((V3.setCell ⟨b, 7, none⟩ (.int .i64 (n : Nat))).setCell ⟨b, 8, none⟩ (.int .i64 (n : Nat))).setCell ⟨b, 11, none⟩ (.slice p4 (s.queue.length - x) c4)).setCell ⟨b, 12, none⟩ (.int .i64 0)) = V5 at *
  obtain ⟨y0, y1, y2, y3, y4, y5⟩ := frBox (unhide HBX)
  have hso := unhide HOK
  have hcok := (unhide H5).cok
  have hak := acknowledge_ok hcok hso h2 hn (unhide HGD)
  have hst5 : (acknowledge c n s).state = 2 := acknowledge_state.trans h2
  have hout5 : (acknowledge c n s).out.length + 32 ≤ 2199023255552 := by rw [acknowledge_out]; exact hl
  have hok6 := hearReady_ok hcok hak hst5 (⟨fa, fk, fp, fns, (n : Nat), info⟩ : Fr) (acknowledge_va hcok hso hn)
  have hst6 := (hearReady_state (c := c) (s := acknowledge c n s) (⟨fa, fk, fp, fns, (n : Nat), info⟩ : Fr)).trans hst5
  have ho6 := hearReady_out (c := c) (s := acknowledge c n s) (⟨fa, fk, fp, fns, (n : Nat), info⟩ : Fr)
  have k6 := supervised_ref (unhide H5) (⟨fa, fk, fp, fns, (n : Nat), info⟩ : Fr) cm0 n rfl hn hk3 hcmd fq fc (by omega)
  unfold frV at k6
  have K6 := hide k6
  clear k6
  have HK6 := hide (And.intro hok6 (And.intro hst6 (And.intro ho6 hout5)))
  clear hso hcok hak hst5 hout5 hok6 hst6 ho6
  go_wp2_with fail
  refine (unhide K6).mono ?_
  rintro e w6 ⟨rfl, own6, ⟨q6, cm6, o6, ev6, ce6, oe6, h6⟩, u6⟩
  obtain ⟨hok6, hst6, ho6, hout5⟩ := unhide HK6
  have K7 := hide (pump_ref h6 hok6 hst6 (by omega))
  have HU6 := hide ((unhide HU5).trans u6)
  clear K6 HK6 hok6 hst6 ho6 hout5 h6 u6 HU5 y0 y1 y2 y3 y4 y5
  go_wp2_with fail
  refine (unhide K7).mono ?_
  rintro e w7 ⟨rfl, own7, h7, u7⟩
  have HR := hide (And.intro h7 ((unhide HU6).trans u7))
  clear K7 h7 u7 HU6
  go_wp2
  first | go_end0 | refine bodyPost_ret (results_none rfl _ _ _) rfl ?_
  exact ⟨rfl, _, (unhide HR).1, (unhide HR).2⟩
set_option maxHeartbeats 8000000 in
set_option maxRecDepth 100000 in
theorem upg_s_ap (h : TAt w own i b c s cl q cm o ev ce oe) (hok : s.ok c) (h2 : s.state = 2) (fa fk : Int) (fp cm0 : Bool) (fns : Int) (n : Nat) (hn : n < c.m) (info : Msg) (fq : Option Addr) (fc : Nat) (n1 : (fk == 1) = false) (n5 : (fk == 5) = false) (n6 : (fk == 6) = false) (n7 : (fk == 7) = false) (n8 : (fk == 8) = false) (n9 : (fk == 9) = false) (hk3 : fk = 2 ∨ fk = 3 ∨ fk = 4) (hcmd : isCmd c (⟨fa, fk, fp, fns, (n : Nat), info⟩ : Fr) = cm0) (hgood : ahead c s n ≤ ahead c s s.vm) (hA : ahead c s s.vs < ahead c s n) (hB : 0 < ahead c s n) (hpol : s.polling = true) (hl : s.out.length + 32 ≤ 2199023255552) :
    Calls Tryz.prog 126 #[.pointer (some ⟨b, 0, none⟩), .agg #[.int .i64 fa, .int .i64 fk, .bool fp, .int .i64 fns, .int .i64 (n : Nat), .slice fq info.length fc], .bool cm0] w fun e w' => TDid i b c (pump c (hearReady c (⟨fa, fk, fp, fns, (n : Nat), info⟩ : Fr) (acknowledge c n s))) cl own w e w' := by
  have HACK := hide (ack_ref h.cok hok hn)
  have HOK := hide hok
  have HGD : Hid (isGood c s n = true) := hide (by unfold isGood; exact decide_eq_true hgood)
  have hxq : ahead c s n ≤ s.queue.length := Nat.le_trans hgood hok.svm
  have hlt := h.lt
  have hn0 := h.new0 w.heap.size (Nat.le_refl _)
  have hA0 := alloc1_a w (.cells #[.int .i64 fa, .int .i64 fk, .bool fp, .int .i64 fns, .int .i64 (n : Nat), .slice fq info.length fc] 30)
  have hbA := (Below.refl w.heap.size w).alloc (Nat.le_refl _) (.cells #[.int .i64 fa, .int .i64 fk, .bool fp, .int .i64 fns, .int .i64 (n : Nat), .slice fq info.length fc] 30)
  go_enter Tryz.func126, Tryz.ntmps126
  go_upto_region 1 with fail
  generalize w.alloc (.cells #[.int .i64 fa, .int .i64 fk, .bool fp, .int .i64 fns, .int .i64 (n : Nat), .slice fq info.length fc] 30) = W0 at *
  have h0 := h.later hbA
  have k14 := fun N => away_ref (h0.drewN N) s.va n h0.sok.va hn
  have hah : (n + c.m - s.va) % c.m = ahead c s n := rfl
  rw [hah] at k14
  obtain ⟨y0, y1, y2, y3, y4, y5⟩ := frBox hA0
  have c8 : W0.cell? ⟨b, 8, none⟩ = some (.int .i64 s.va) := h0.cell 8 rfl
  have H0 := hide h0
  have HA0 := hide hA0
  have HBA := hide hbA
  clear h0 hA0 hbA hah
  generalize hx : ahead c s n = x at *
  go_wp2_with fail
  go_quiet (first | (go_at_call 133; exact Calls.quiet_of (k14 _)))
  have hV := (unhide H0).drewN nq
  have hVb : Below w.heap.size w (W0.drewN nq) := below_drewN (unhide HBA) nq
  have hAV : (W0.drewN nq).heap[w.heap.size]? = some (.cells #[.int .i64 fa, .int .i64 fk, .bool fp, .int .i64 fns, .int .i64 (n : Nat), .slice fq info.length fc] 30 (0, 0)) := unhide HA0
  clear H0 HA0 HBA k14 y0 y1 y2 y3 y4 y5 c8
  generalize W0.drewN nq = V at *
  have k15 := fun N => away_ref (hV.drewN N) s.va s.vm hV.sok.va hV.sok.vm
  have hah : (s.vm + c.m - s.va) % c.m = ahead c s s.vm := rfl
  rw [hah] at k15
  obtain ⟨y0, y1, y2, y3, y4, y5⟩ := frBox hAV
  have c8 : V.cell? ⟨b, 8, none⟩ = some (.int .i64 s.va) := hV.cell 8 rfl
  have c10 : V.cell? ⟨b, 10, none⟩ = some (.int .i64 s.vm) := hV.cell 10 rfl
  have H1 := hide hV
  have HAV := hide hAV
  have HVB := hide hVb
  clear hV hAV hVb hah
  generalize hy : ahead c s s.vm = y at *
  have hngt : ¬ (y : Int) < (x : Int) := by omega
  go_wp2_with fail
  go_quiet (first | (go_at_call 133; exact Calls.quiet_of (k15 _)))
  have hV := (unhide H1).drewN nq
  have hVb := below_drewN (unhide HVB) nq
  have hAV : (V.drewN nq).heap[w.heap.size]? = some (.cells #[.int .i64 fa, .int .i64 fk, .bool fp, .int .i64 fns, .int .i64 (n : Nat), .slice fq info.length fc] 30 (0, 0)) := unhide HAV
  clear H1 HVB HAV k15 y0 y1 y2 y3 y4 y5 c8 c10
  generalize V.drewN nq = V2 at *
  have k18 := fun N => away_ref (hV.drewN N) s.va s.vs hV.sok.va hV.sok.vs
  have hah : (s.vs + c.m - s.va) % c.m = ahead c s s.vs := rfl
  rw [hah] at k18
  have c7 : V2.cell? ⟨b, 7, none⟩ = some (.int .i64 s.vs) := hV.cell 7 rfl
  have c8 : V2.cell? ⟨b, 8, none⟩ = some (.int .i64 s.va) := hV.cell 8 rfl
  have H1 := hide hV
  have HAV := hide hAV
  have HVB := hide hVb
  clear hV hAV hVb hah
  generalize hz : ahead c s s.vs = z at *
  go_wp2_with fail
  go_quiet (first | (go_at_call 133; exact Calls.quiet_of (k18 _)))
  have hV3 := (unhide H1).drewN nq
  have hVb3 := below_drewN (unhide HVB) nq
  have hAV3 : (V2.drewN nq).heap[w.heap.size]? = some (.cells #[.int .i64 fa, .int .i64 fk, .bool fp, .int .i64 fns, .int .i64 (n : Nat), .slice fq info.length fc] 30 (0, 0)) := unhide HAV
  clear H1 HVB HAV k18 c7 c8
  generalize V2.drewN nq = V3 at *
  obtain ⟨y0, y1, y2, y3, y4, y5⟩ := frBox hAV3
  skip
  obtain ⟨p4, c4, hq4, hsl⟩ := hV3.lq.cut hxq
  rw [List.length_drop] at hq4 hsl
  skip
  have c7 : V3.cell? ⟨b, 7, none⟩ = some (.int .i64 s.vs) := hV3.cell 7 rfl
  have c8 : V3.cell? ⟨b, 8, none⟩ = some (.int .i64 s.va) := hV3.cell 8 rfl
  have c11 : V3.cell? ⟨b, 11, none⟩ = some q := hV3.cell 11 rfl
  have c12 : V3.cell? ⟨b, 12, none⟩ = some (.int .i64 s.timer) := hV3.cell 12 rfl
  have c14 : V3.cell? ⟨b, 14, none⟩ = some (.bool s.polling) := hV3.cell 14 rfl
  rw [hpol] at c14
  have fz := hV3.fz
  have hne : ¬ w.heap.size = b := by omega
  have hne2 : ¬ b = w.heap.size := by omega
  have hBB : ¬ (0 < x ∧ s.polling = false) := fun hh => by rw [hpol] at hh; cases hh.2
  have hK : Keeps (· = b) V3 (((V3.setCell ⟨b, 7, none⟩ (.int .i64 (n : Nat))).setCell ⟨b, 8, none⟩ (.int .i64 (n : Nat))).setCell ⟨b, 11, none⟩ (.slice p4 (s.queue.length - x) c4)) := ((((Keeps.refl _ V3).setB 7 _).setB 8 _).setB 11 _)
  have h5 := hV3.wroteL hK ((((hV3.hd.vs n).va n).lq (.slice p4 (s.queue.length - x) c4)).as { s with vs := n, va := n, queue := (s.queue.drop x), timer := s.timer } rfl) hq4 Stays.same Stays.same (.inl ⟨rfl, rfl⟩) ⟨hV3.sok.state, hn, hn, hV3.sok.vr, hV3.sok.vm, by show (s.queue.drop x).length ≤ 20; rw [List.length_drop]; have := hV3.sok.q20; omega, fun z hz => hV3.sok.q32 z (List.mem_of_mem_drop hz), hV3.sok.timer, hV3.sok.tries, hV3.sok.came⟩
  have hack := unhide HACK
  rw [if_pos hA, if_neg hBB] at hack
  rw [← hack] at h5
  have hbx : (((V3.setCell ⟨b, 7, none⟩ (.int .i64 (n : Nat))).setCell ⟨b, 8, none⟩ (.int .i64 (n : Nat))).setCell ⟨b, 11, none⟩ (.slice p4 (s.queue.length - x) c4)).heap[w.heap.size]? = some (.cells #[.int .i64 fa, .int .i64 fk, .bool fp, .int .i64 fns, .int .i64 (n : Nat), .slice fq info.length fc] 30 (0, 0)) := by
    rw [hK.block w.heap.size (Array.getElem?_eq_some_iff.1 hAV3).1 hne]
    exact hAV3
  have H5 := hide h5
  have HBX := hide hbx
  have HU5 := hide (Upd.of hVb3 (hV3.upd hK))
  have hAI : (z : Int) < (x : Int) := by omega
  have hBI : (0 : Int) < (x : Int) := by omega
  clear hack h5 hbx hK hV3 hAV3 hVb3 hq4 HACK hx hy hz h hok hgood hBB
  go_upto_region 24 with fail
  clear y0 y1 y2 y3 y4 y5 c7 c8 c11 c12 c14 fz hsl
  generalize (((V3.setCell ⟨b, 7, none⟩ (.int .i64 (n : Nat))).setCell ⟨b, 8, none⟩ (.int .i64 (n : Nat))).setCell ⟨b, 11, none⟩ (.slice p4 (s.queue.length - x) c4)) = V5 at *
  obtain ⟨y0, y1, y2, y3, y4, y5⟩ := frBox (unhide HBX)
  have hso := unhide HOK
  have hcok := (unhide H5).cok
  have hak := acknowledge_ok hcok hso h2 hn (unhide HGD)
  have hst5 : (acknowledge c n s).state = 2 := acknowledge_state.trans h2
  have hout5 : (acknowledge c n s).out.length + 32 ≤ 2199023255552 := by rw [acknowledge_out]; exact hl
  have hok6 := hearReady_ok hcok hak hst5 (⟨fa, fk, fp, fns, (n : Nat), info⟩ : Fr) (acknowledge_va hcok hso hn)
  have hst6 := (hearReady_state (c := c) (s := acknowledge c n s) (⟨fa, fk, fp, fns, (n : Nat), info⟩ : Fr)).trans hst5
  have ho6 := hearReady_out (c := c) (s := acknowledge c n s) (⟨fa, fk, fp, fns, (n : Nat), info⟩ : Fr)
  have k6 := supervised_ref (unhide H5) (⟨fa, fk, fp, fns, (n : Nat), info⟩ : Fr) cm0 n rfl hn hk3 hcmd fq fc (by omega)
  unfold frV at k6
  have K6 := hide k6
  clear k6
  have HK6 := hide (And.intro hok6 (And.intro hst6 (And.intro ho6 hout5)))
  clear hso hcok hak hst5 hout5 hok6 hst6 ho6
  go_wp2_with fail
  refine (unhide K6).mono ?_
  rintro e w6 ⟨rfl, own6, ⟨q6, cm6, o6, ev6, ce6, oe6, h6⟩, u6⟩
  obtain ⟨hok6, hst6, ho6, hout5⟩ := unhide HK6
  have K7 := hide (pump_ref h6 hok6 hst6 (by omega))
  have HU6 := hide ((unhide HU5).trans u6)
  clear K6 HK6 hok6 hst6 ho6 hout5 h6 u6 HU5 y0 y1 y2 y3 y4 y5
  go_wp2_with fail
  refine (unhide K7).mono ?_
  rintro e w7 ⟨rfl, own7, h7, u7⟩
  have HR := hide (And.intro h7 ((unhide HU6).trans u7))
  clear K7 h7 u7 HU6
  go_wp2
  first | go_end0 | refine bodyPost_ret (results_none rfl _ _ _) rfl ?_
  exact ⟨rfl, _, (unhide HR).1, (unhide HR).2⟩
end
end Go.Proofs.YtkalonhalhdlaaaGreatDoor
