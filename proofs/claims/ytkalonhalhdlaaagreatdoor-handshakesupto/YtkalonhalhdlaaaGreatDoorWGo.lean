/-
  One step of the law at the stations' kinds.
-/
import Derived.Test.YtkalonhalhdlaaaGreatDoorG31
import Derived.Test.YtkalonhalhdlaaaGreatDoorWStep1
import Derived.Test.YtkalonhalhdlaaaGreatDoorWStep4
import Derived.Test.YtkalonhalhdlaaaGreatDoorWStep5
import Derived.Test.YtkalonhalhdlaaaGreatDoorWStep6
import Derived.Test.YtkalonhalhdlaaaGreatDoorWStep7
namespace Go.Proofs.YtkalonhalhdlaaaGreatDoor
open Go.RowKit
/-- What a step at a station is. -/
structure OpS (w : World) (o : OpV) : Prop where
  a : -9223372036854775808 ≤ o.a ∧ o.a ≤ 9223372036854775807
  b : -9223372036854775808 ≤ o.b ∧ o.b ≤ 9223372036854775807
  d : -9223372036854775808 ≤ o.d ∧ o.d ≤ 9223372036854775807
  s : o.s.size ≤ 1048576
  lv : ∃ lp ln lc, o.lv = .slice lp ln lc
  src : SrcE w o.fq o.f.info
theorem OpS.below {w w' : World} {o : OpV} (h : OpS w o) {B : Nat} (hb : Below B w w') (hB : w.heap.size ≤ B) : OpS w' o := ⟨h.a, h.b, h.d, h.s, h.lv, h.src.below hb hB⟩
section
variable {c : Cfg} {s : St}
theorem connectS_grows : Grows 18 2 s (connectS c s).2 := by
  unfold connectS
  split
  · exact (ask_grows 1 5).mono (by omega) (by omega)
  · exact Grows.same rfl rfl
theorem leaveS_grows : Grows 18 2 s (leaveS c s).2 := by
  unfold leaveS
  split
  · exact Grows.same rfl rfl
  · exact (ask_grows 3 6).mono (by omega) (by omega)
theorem connectS_came : (connectS c s).2.came = s.came := by unfold connectS; split <;> rfl
theorem leaveS_came : (leaveS c s).2.came = s.came := by unfold leaveS; split <;> rfl
theorem busyS_came (on : Bool) : (busyS c on s).came = s.came := by unfold busyS; rw [change_came]
theorem takenS_came : (takenS c s).came = [] := by unfold takenS; rw [change_came]
theorem tickN_came (cl : Bool) (k : Nat) : (tickN cl c s k).came = s.came := by
  induction k with
  | zero => rfl
  | succ k ih =>
    unfold tickN
    split
    · exact ih
    · rw [tickS_came, ih]
theorem tickN_phi (hc : c.ok) (h : s.ok c) (cl : Bool) (k : Nat) : Phi c (tickN cl c s k) ≤ Phi c s + 16 * k := by
  induction k with
  | zero => exact Nat.le_refl _
  | succ k ih =>
    unfold tickN
    split
    · omega
    · have := (tickS_lim (lu := false) (tickN_ok (cl := cl) hc h k)).phi
      omega
theorem hearS_phi (hc : c.ok) (h : s.ok c) (m : Msg) : Phi c (hearS c m s).2 ≤ Phi c s + 46 := by
  have h1 := ((hearS_lim (lu := false) hc h m).trans Lim.calm).phi
  have h2 := hit_le false m
  have h3 : (if kR m then 15 else 0) ≤ 15 := by split <;> omega
  omega
/-- What a call makes of a station is still small. -/
structure Meet (c : Cfg) (s t : St) : Prop where
  short : t.short
  phi : Phi c t ≤ Phi c s + 256
  ev : t.events.length ≤ s.events.length + 20
theorem Meet.same (h : s.short) : Meet c s s := ⟨h, by omega, by omega⟩
theorem Meet.of {t : St} {k e : Nat} (h : s.short) (hg : Grows k e s t) (he : e ≤ 20) (hc : CameIn s t) (hp : Phi c t ≤ Phi c s + 256) : Meet c s t := ⟨h.grown hg hc, hp, by have := hg.events; omega⟩
theorem Meet.cl {t : St} {P : Prop} [Decidable P] (h : s.short) (k : Meet c s t) : Meet c s (if P then s else t) := by
  split
  · exact Meet.same h
  · exact k
theorem meet_connect (h : s.short) : Meet c s (connectS c s).2 := Meet.of h connectS_grows (by omega) (CameIn.same connectS_came) (by have := (connectS_lim (c := c) (s := s) (lu := false)).phi; omega)
theorem meet_leave (h : s.short) : Meet c s (leaveS c s).2 := Meet.of h leaveS_grows (by omega) (CameIn.same leaveS_came) (by have := (leaveS_lim (c := c) (s := s) (lu := false)).phi; omega)
theorem meet_busy (h : s.short) (on : Bool) : Meet c s (busyS c on s) := Meet.of h (busyS_grows on) (by omega) (CameIn.same (busyS_came on)) (by have := (busyS_lim (c := c) (s := s) (lu := false) on).phi; omega)
theorem meet_taken (hc : c.ok) (h : s.short) : Meet c s (takenS c s) := Meet.of h takenS_grows (by omega) (fun m hm => by rw [takenS_came] at hm; simp at hm) (by have := (takenS_lim (c := c) (s := s) (lu := false) hc).phi; omega)
theorem meet_send (hc : c.ok) (ho : s.ok c) (h : s.short) (m : Msg) : Meet c s (sendS c m s).2 := Meet.of h (sendS_grows m) (by omega) (CameIn.same (sendS_came m)) (by have := (sendS_lim (lu := false) hc ho m).phi; omega)
theorem meet_hear (hc : c.ok) (ho : s.ok c) (h : s.short) (m : Msg) : Meet c s (hearS c m s).2 := Meet.of h (hearS_grows m) (by omega) (hearS_came m) (by have := hearS_phi hc ho m; omega)
theorem meet_tick (hc : c.ok) (ho : s.ok c) (h : s.short) (cl : Bool) {k : Nat} (hk : k ≤ 8) : Meet c s (tickN cl c s k) := Meet.of h (tickN_grows cl c s k) (by omega) (CameIn.same (tickN_came cl k)) (by have := tickN_phi hc ho cl k; omega)
theorem meet_events (h : s.short) : Meet c s { s with events := [] } := by
  refine ⟨⟨h.out, h.came⟩, ?_, Nat.zero_le _⟩
  have h1 : Lim c 0 0 0 false false s { s with events := [] } := Lim.quiet rfl rfl rfl rfl rfl rfl rfl
  have := h1.phi
  omega
end
/-- Behind one step more. -/
def Goes (B wb a b M : Nat) (hs : Value) (es : List Ear) (w w' : World) : Prop :=
  ∃ own' ss' x' ps', GwAt B w' wb own' ss' x' ps' ∧ (Fit (a + 1) b M x' ps' ∨ Fit a (b + 1) M x' ps') ∧ Below B w w' ∧ x'.hs = hs ∧ x'.es = es
section
variable {B : Nat} {w V w' : World} {wb : Nat} {own : Nat → Nat} {ss : Value} {x : Lw} {ps : List Post} {a b M : Nat}
theorem goes_now (hf : Fit a b M x ps) {n : Nat} {p : Post} (hp : ps[n]? = some p) {s' : St} (hm : Meet p.c p.s s') (h : Now B V wb own ss x (ps.set n (p.to s')) w') : Goes B wb a b M x.hs x.es V w' := by
  obtain ⟨own', h1, _, h3⟩ := h
  exact ⟨own', ss, x, _, h1, .inl (hf.more hp ⟨rfl, (hf.even p (mem_of_get hp)).2⟩ hm.short hm.phi hm.ev Grew.none (by omega) (by omega) (by omega)), h3, rfl, rfl⟩
theorem step_station (h : GwAt B w wb own ss x ps) (hf : Fit a b M x ps) (hab : a + b ≤ 50000) (hM : M ≤ 10000000000) (o : OpV) (ho : OpS w o) (hk : 20 ≤ o.kind ∧ o.kind ≤ 33) :
    Calls Tryz.prog 12 #[.pointer (some ⟨wb, 0, none⟩), opV o] w fun e w' => e = .returned (.bool true) ∧ Goes B wb a b M x.hs x.es w w' := by
  have htop := h.top
  have hhand := hand_le hab
  have hlen := hf.len
  have hfin : ∀ {e : Ending} {w' : World}, (e = .returned (.bool true) ∧ ∃ V, Below w.heap.size w V ∧ Goes B wb a b M x.hs x.es V w') → (e = .returned (.bool true) ∧ Goes B wb a b M x.hs x.es w w') := by
    rintro e w' ⟨rfl, V, hV, own', ss', x', ps', q1, q2, q3, q4⟩
    exact ⟨rfl, own', ss', x', ps', q1, q2, (hV.mono htop).trans q3, q4⟩
  have hout : ∀ q ∈ ps, q.s.out.length ≤ 100000000 := fun q hq => by
    have h1 := phi_le hq
    have h2 := hf.phi
    have h3 := out_le (c := q.c) (s := q.s)
    omega
  have hevs : ∀ q ∈ ps, q.s.events.length ≤ 400000000000 := fun q hq => by
    have h1 := ev_le hq
    have h2 := hf.ev
    omega
  have heb : x.b.eb.length ≤ 800000000000 := by have := hf.sm.eb; omega
  have hel : x.b.el.length ≤ 800000000000 := by have := hf.sm.el; omega
  have hei : x.b.ei.length ≤ 800000000000 := by have := hf.sm.ei; omega
  by_cases h20 : o.kind = 20
  · refine (step_made (Q := Goes B wb a b M x.hs x.es) h o ho.lv h20 (fun V hV => ?_)).mono (fun _ _ q => hfin q)
    have hV' := h.later hV
    have key : ∀ {e : Ending} {w' : World}, (e = .returned (.bool true) ∧ Made B V wb x ps w') → (e = .returned (.bool true) ∧ Goes B wb a b M x.hs x.es V w') := by
      rintro e w' ⟨rfl, own', ss', ps', q1, q2, q3⟩
      rcases q2 with rfl | ⟨np, rfl, n1, n2, n3⟩
      · exact ⟨rfl, own', ss', x, _, q1, .inl hf.idle, q3, rfl, rfl⟩
      · exact ⟨rfl, own', ss', x, _, q1, .inl (hf.made n1 n2 n3), q3, rfl, rfl⟩
    cases hc : cfgB o.c0 o.c1 o.c2 o.c3 o.c4 o.c5 with
    | false => exact (made_no hV' o ho.lv hc).mono (fun _ _ q => key q)
    | true => exact (made_yes hV' o ho.lv (by omega) hc).mono (fun _ _ q => key q)
  by_cases hn : ps.length = 0
  · refine (step_idle h hn o ho.lv (by omega)).mono ?_
    rintro e w' ⟨rfl, hb⟩
    exact ⟨rfl, own, ss, x, ps, h.later hb, .inl hf.idle, hb.mono htop, rfl, rfl⟩
  have hnp : 0 < ps.length := by omega
  have hps : ps.length ≤ 200000000000 := by omega
  by_cases h25 : o.kind = 25
  · refine (step_25 (Q := Goes B wb a b M x.hs x.es) h hnp hps o ho.lv h25 ho.a (fun r hr V hV => ?_)).mono (fun _ _ q => hfin q)
    have hp : ps[r]? = some ps[r] := List.getElem?_eq_getElem hr
    have hpm := mem_of_get hp
    have hcok := h.cok hp
    have hcl : (if ps[r].cl then [] else ps[r].s.came).length ≤ 16 := by
      split
      · simp
      · have := (h.ok _ hpm).1.came; have := hcok.room16; omega
    refine (lists_taken (h.later hV) hp (hf.even _ hpm) (by have := hout _ hpm; omega) (fun m hm => ?_) (by omega) (by omega) (by omega)).mono ?_
    · have : m ∈ ps[r].s.came := by
        split at hm
        · simp at hm
        · exact hm
      have := (hf.short _ hpm).came m this
      omega
    · rintro e w' ⟨m, me, rfl, own', x', q1, q2, _, q4, _, _⟩
      have hm := Meet.cl (P := ps[r].cl = true) (hf.short _ hpm) (meet_taken hcok (hf.short _ hpm))
      exact ⟨m, rfl, own', ss, x', _, q1, .inl (hf.more hp ⟨rfl, (hf.even _ hpm).2⟩ hm.short hm.phi hm.ev q2 hcl (by omega) (by omega)), q4, q2.hs, q2.es⟩
  by_cases h29 : o.kind = 29
  · refine (step_29 (Q := Goes B wb a b M x.hs x.es) h hnp hps o ho.lv h29 ho.a (fun r hr V hV => ?_)).mono (fun _ _ q => hfin q)
    have hp : ps[r]? = some ps[r] := List.getElem?_eq_getElem hr
    have hpm := mem_of_get hp
    have ho1 := hout _ hpm
    have hcl : (if ps[r].cl then [] else ps[r].s.out).length ≤ 100000000 := by
      split
      · simp
      · exact ho1
    refine (lists_out (h.later hV) hp (hf.even _ hpm) (fun m hm => ?_) (by omega) (by omega) (by omega)).mono ?_
    · have : m ∈ ps[r].s.out := by
        split at hm
        · simp at hm
        · exact hm
      have := (hf.short _ hpm).out m this
      omega
    · rintro e w' ⟨m, me, rfl, own', x', q1, q2, _, q4, _, _⟩
      refine ⟨m, rfl, own', ss, x', _, q1, .inr (hf.less hp ⟨rfl, (hf.even _ hpm).2⟩ ?_ ?_ ?_ q2 (by omega) (by omega)), q4, q2.hs, q2.es⟩
      · show St.short (if ps[r].cl then ps[r].s else { ps[r].s with out := [] })
        split
        · exact hf.short _ hpm
        · exact ⟨fun m hm => by simp at hm, (hf.short _ hpm).came⟩
      · show Phi ps[r].c (if ps[r].cl then ps[r].s else { ps[r].s with out := [] }) + (if ps[r].cl then [] else ps[r].s.out).length ≤ _
        split
        · simp
        · have h1 := out_phi (c := ps[r].c) (s := ps[r].s)
          exact Nat.le_trans (Nat.add_le_add_left (heft_len ps[r].s.out) _) h1
      · show (if ps[r].cl then ps[r].s else { ps[r].s with out := [] }).events.length ≤ _
        split <;> exact Nat.le_refl _
  by_cases h30 : o.kind = 30
  · refine (step_30 (Q := Goes B wb a b M x.hs x.es) h hnp hps o ho.lv h30 ho.a (fun r hr V hV => ?_)).mono (fun _ _ q => hfin q)
    have hp : ps[r]? = some ps[r] := List.getElem?_eq_getElem hr
    have hpm := mem_of_get hp
    have ho1 := hout _ hpm
    refine (carries_any (h.later hV) hp hf.even o ho.lv ho.b ho.d hps (fun m hm => by have := (hf.short _ hpm).out m hm; omega) (by omega) (by omega) (by omega) (fun q hq => ⟨by have := hout q hq; omega, by have := hevs q hq; omega⟩)).mono ?_
    rintro e w' ⟨rfl, ny, y, M', own', x', c1, c2, c3, c4, c5⟩
    exact ⟨rfl, own', ss, x', _, c3, .inr (hf.carry (fun q hq => by
      obtain ⟨i, hi⟩ := List.getElem?_of_mem hq
      exact ⟨h.cok hi, (h.ok q hq).1⟩) hp rfl rfl c1 c2 c4), c5, c4.hs, c4.es⟩
  by_cases h31 : o.kind = 31
  · refine (step_31 (Q := Goes B wb a b M x.hs x.es) h hnp hps o ho.lv h31 ho.a (fun r hr V hV => ?_)).mono (fun _ _ q => hfin q)
    have hp : ps[r]? = some ps[r] := List.getElem?_eq_getElem hr
    have hpm := mem_of_get hp
    refine (told_events (h.later hV) hp (hf.even _ hpm) o ho.lv h31 (by omega) (by have := hevs _ hpm; omega)).mono ?_
    rintro e w' ⟨rfl, own', x', q1, q2, q3⟩
    have hm := Meet.cl (P := ps[r].cl = true) (hf.short _ hpm) (meet_events (c := ps[r].c) (hf.short _ hpm))
    exact ⟨rfl, own', ss, x', _, q1, .inl (hf.more hp ⟨rfl, (hf.even _ hpm).2⟩ hm.short hm.phi hm.ev q2 (by omega) (by omega) (by omega)), q3, q2.hs, q2.es⟩
  by_cases h32 : o.kind = 32
  · refine (step_32 (Q := Goes B wb a b M x.hs x.es) h hnp hps o ho.lv h32 ho.a (fun r hr V hV => ?_)).mono (fun _ _ q => hfin q)
    have hp : ps[r]? = some ps[r] := List.getElem?_eq_getElem hr
    have hpm := mem_of_get hp
    refine (told_view (h.later hV) hp (hf.even _ hpm) o ho.lv h32).mono ?_
    rintro e w' ⟨rfl, own', x', q1, q2, q3⟩
    have hm := Meet.same (c := ps[r].c) (hf.short _ hpm)
    have e1 := hf.more hp (hf.even _ hpm) hm.short hm.phi hm.ev q2 (by omega) (by omega) (by omega)
    rw [set_self hp] at e1
    exact ⟨rfl, own', ss, x', _, q1, .inl e1, q3, q2.hs, q2.es⟩
  refine (step_acts (Q := Goes B wb a b M x.hs x.es) h hnp hps o ho.lv (by omega) ho.a (fun r hr V hV => ?_)).mono (fun _ _ q => hfin q)
  have hp : ps[r]? = some ps[r] := List.getElem?_eq_getElem hr
  have hpm := mem_of_get hp
  have hV' := h.later hV
  have hev := hf.even _ hpm
  have hsh := hf.short _ hpm
  have hcok := h.cok hp
  have hok := (h.ok _ hpm).1
  have ho1 := hout _ hpm
  have he1 := hevs _ hpm
  have key : ∀ {s' : St} {e : Ending} {w' : World}, Meet ps[r].c ps[r].s s' → (e = .returned (.bool true) ∧ Now B V wb own ss x (ps.set r (ps[r].to s')) w') → (e = .returned (.bool true) ∧ Goes B wb a b M x.hs x.es V w') :=
    fun hm q => ⟨q.1, goes_now hf hp hm q.2⟩
  have hsw : SrcE V o.fq o.f.info := ho.src.below hV (Nat.le_refl _)
  by_cases h21 : o.kind = 21
  · exact (acts_connect hV' hp hev o ho.lv h21 (by omega)).mono (fun _ _ q => key (Meet.cl hsh (meet_connect hsh)) q)
  by_cases h22 : o.kind = 22
  · exact (acts_leave hV' hp hev o ho.lv h22 (by omega)).mono (fun _ _ q => key (Meet.cl hsh (meet_leave hsh)) q)
  by_cases h23 : o.kind = 23
  · exact (acts_send hV' hp hev o ho.lv h23 ho.s (by omega)).mono (fun _ _ q => key (Meet.cl hsh (meet_send hcok hok hsh _)) q)
  by_cases h24 : o.kind = 24
  · exact (acts_busy hV' hp hev o ho.lv h24 (by omega)).mono (fun _ _ q => key (Meet.cl hsh (meet_busy hsh _)) q)
  by_cases h26 : o.kind = 26
  · exact (acts_hear hV' hp hev o ho.lv h26 ho.s (by omega) (by omega)).mono (fun _ _ q => key (Meet.cl hsh (meet_hear hcok hok hsh _)) q)
  by_cases h27 : o.kind = 27
  · exact (acts_frame hV' hp hev o ho.lv h27 hsw (fun U hU => hsw.below hU (Nat.le_refl _)) (by omega) (by omega)).mono (fun _ _ q => key (Meet.cl hsh (meet_hear hcok hok hsh _)) q)
  by_cases h28 : o.kind = 28
  · refine (acts_tick hV' hp hev o ho.lv h28 ho.b (by omega) (by omega)).mono ?_
    rintro e w' ⟨rfl, k, hk8, q⟩
    exact ⟨rfl, goes_now hf hp (meet_tick hcok hok hsh _ hk8) q⟩
  · have h33 : o.kind = 33 := by omega
    refine (acts_close hV' hp hev o ho.lv h33).mono ?_
    rintro e w' ⟨rfl, own', q1, _, q3⟩
    have hm := Meet.same (c := ps[r].c) hsh
    exact ⟨rfl, own', ss, x, _, q1, .inl (hf.more (q := { ps[r] with cl := true, dl := true }) hp ⟨hev.1, rfl⟩ hm.short hm.phi hm.ev Grew.none (by omega) (by omega) (by omega)), q3, rfl, rfl⟩
end
end Go.Proofs.YtkalonhalhdlaaaGreatDoor
