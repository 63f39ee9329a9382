import Derived.Test.YtkalonhalhdlaaaGreatDoorG05
import Derived.Test.YtkalonhalhdlaaaGreatDoorG04
import Derived.Test.YtkalonhalhdlaaaGreatDoorG02
import Derived.Deep.CutRange
/-
  What one call of the book's looks does, with all four kinds of lists.
-/
namespace Go.Proofs.YtkalonhalhdlaaaGreatDoor
open Go.RowKit
theorem quo4 (k : Nat) : (k : Int).tdiv 4 = ((k / 4 : Nat) : Int) := by
  rw [Int.tdiv_eq_ediv_of_nonneg (by omega)]; omega
theorem quo1024 (k : Nat) : (k : Int).tdiv 1024 = ((k / 1024 : Nat) : Int) := by
  rw [Int.tdiv_eq_ediv_of_nonneg (by omega)]; omega
theorem reps_two (a b : Value) (n q : Nat) (h : q < n) : (reps [a, b] n)[q * 2]? = some a ∧ (reps [a, b] n)[q * 2 + 1]? = some b := by
  induction n generalizing q with
  | zero => omega
  | succ n ih =>
    have e : reps [a, b] (n + 1) = a :: b :: reps [a, b] n := by simp [reps, List.replicate_succ]
    rw [e]
    cases q with
    | zero => simp
    | succ q =>
      have := ih q (by omega)
      rw [show (q + 1) * 2 = q * 2 + 1 + 1 by omega]
      simpa using this
theorem bytes_neq_none (w : World) : (binOp .neq 28 (.slice none 0 0) (.slice none 0 0)).run Tryz.prog w = .ok (.bool false) w := by kernel_rfl
set_option maxHeartbeats 8000000 in
set_option maxRecDepth 1000000 in
theorem looks_bk (wb : Nat) (hs ss : Value) (b : Bk) (w : World) (h : BkAt w wb hs ss b) (hb : b.eb.length ≤ 4000000000000) (hf : b.ef.length ≤ 1099511627776) (hl : b.el.length ≤ 1099511627776) (hi : b.ei.length ≤ 1099511627776) :
    Calls Tryz.prog 13 #[.pointer (some ⟨wb, 2, none⟩)] w fun e w' => e = .returned (.bool true) ∧ w' = w := by
  have c2 := h.head.cell 2 _ rfl
  have c3 := h.head.cell 3 _ rfl
  have c4 := h.head.cell 4 _ rfl
  have c5 := h.head.cell 5 _ rfl
  obtain ⟨bp, bc, e1, hbp⟩ := ownsRow_slice h.rb
  obtain ⟨fp, fc, e2, hfp⟩ := ownsRow_slice h.rf
  obtain ⟨lp, lc, e3, hlp⟩ := ownsRow_slice h.rl
  obtain ⟨ip, ic, e4, hip⟩ := ownsRow_slice h.ri
  rw [e1] at c2
  rw [e2] at c3
  rw [e3] at c4
  rw [e4] at c5
  have HRB := hide (e1 ▸ h.rb)
  have HRF := hide (e2 ▸ h.rf)
  have HRL := hide (e3 ▸ h.rl)
  have HRI := hide (e4 ▸ h.ri)
  have HMB := hide h.mb
  have HMF := hide h.mf
  have HML := hide h.ml
  have HMI := hide h.mi
  have HT := hide h.two
  have HMK := fun i hi => mark_any i w hi
  clear h e1 e2 e3 e4
  generalize b.eb = eb at *
  generalize b.ef = ef at *
  generalize b.el = el at *
  generalize b.ei = ei at *
  go_enter Tryz.func13, Tryz.ntmps13
  go_wp2_with fail
  go_loop [3] (fun i => ∃ k : Nat, k ≤ eb.length ∧ i = .int .i64 k) (fun i => eb.length - (intOf i).toNat)
  case atStart => exact ⟨0, Nat.zero_le _, rfl⟩
  case round =>
    obtain ⟨k, hk, rfl⟩ := hrel
    by_cases hlt : k < eb.length
    · obtain ⟨g, rfl⟩ := hbp (by omega)
      obtain ⟨v, hv⟩ : ∃ v, eb[k]? = some v := ⟨_, List.getElem?_eq_getElem hlt⟩
      obtain ⟨n, hmk, hn⟩ := unhide HMB k v hv
      have cE := (unhide HRB).cellAt k (by omega)
      rw [hv] at cE
      obtain ⟨p, cp, rfl, hpg⟩ := ownsRow_slice hmk
      have HK := hide hmk
      clear hmk
      have hmk := HMK k (by unfold maxLen; omega)
      generalize hmkN : markN k = mk at hmk HK
      go_wp2_with fail
      refine hmk.mono ?_
      rintro e W1 ⟨rfl, rfl⟩
      go_wp2
      go_loop [5] (fun j => ∃ q : Nat, q ≤ n ∧ j = .int .i64 q) (fun j => n - (intOf j).toNat)
      case atStart => exact ⟨0, Nat.zero_le _, rfl⟩
      case round =>
        obtain ⟨q, hq, rfl⟩ := hrel
        by_cases hlq : q < n
        · obtain ⟨g2, rfl⟩ := hpg (by omega)
          have cU := World.ownsRow.cellAt (unhide HK) q (by simp; omega)
          have e2 : (reps [Value.int .u8 (mk : Nat)] n)[q]? = some (.int .u8 (mk : Nat)) := by simp [reps, hlq]
          rw [e2] at cU
          go_wp2
          go_round
          case rel => exact ⟨q + 1, hlq, by go_num⟩
          case measure => simp [intOf]; omega
        · have hqn : q = n := by omega
          subst hqn
          go_wp2
          go_round
          case rel => exact ⟨k + 1, hlt, by go_num⟩
          case measure => simp [intOf]; omega
    · have hkn : k = eb.length := by omega
      subst hkn
      clear HRB HMB HMK hbp
      go_wp2
      go_loop [6] (fun i => ∃ k : Nat, k ≤ ei.length ∧ i = .int .i64 k) (fun i => ei.length - (intOf i).toNat)
      case atStart => exact ⟨0, Nat.zero_le _, rfl⟩
      case round =>
        obtain ⟨k, hk, rfl⟩ := hrel
        by_cases hlt : k < ei.length
        · obtain ⟨g, rfl⟩ := hip (by omega)
          obtain ⟨v, hv⟩ : ∃ v, ei[k]? = some v := ⟨_, List.getElem?_eq_getElem hlt⟩
          obtain ⟨n, hmk, hn⟩ := unhide HMI k v hv
          have cE := (unhide HRI).cellAt k (by omega)
          rw [hv] at cE
          obtain ⟨p, cp, rfl, hpg⟩ := ownsRow_slice hmk
          have HK := hide hmk
          clear hmk
          have hq4 := quo4 k
          go_wp2
          go_loop [7] (fun j => ∃ q : Nat, q ≤ n ∧ j = .int .i64 q) (fun j => n - (intOf j).toNat)
          case atStart => exact ⟨0, Nat.zero_le _, rfl⟩
          case round =>
            obtain ⟨q, hq, rfl⟩ := hrel
            by_cases hlq : q < n
            · obtain ⟨g2, rfl⟩ := hpg (by omega)
              have cU := World.ownsRow.cellAt (unhide HK) q (by simp [mkI]; omega)
              have e2 : (reps (mkI k) n)[q]? = some (.int .i64 (-1000 - (k : Int) / 4)) := by simp [reps, hlq, mkI]
              rw [e2] at cU
              go_wp2
              go_round
              case rel => exact ⟨q + 1, hlq, by go_num⟩
              case measure => simp [intOf]; omega
            · have hqn : q = n := by omega
              subst hqn
              go_wp2
              go_round
              case rel => exact ⟨k + 1, hlt, by go_num⟩
              case measure => simp [intOf]; omega
        · have hkn : k = ei.length := by omega
          subst hkn
          clear HRI HMI hip
          go_wp2
          go_loop [8] (fun i => ∃ k : Nat, k ≤ ef.length ∧ i = .int .i64 k) (fun i => ef.length - (intOf i).toNat)
          case atStart => exact ⟨0, Nat.zero_le _, rfl⟩
          case round =>
            obtain ⟨k, hk, rfl⟩ := hrel
            by_cases hlt : k < ef.length
            · obtain ⟨g, rfl⟩ := hfp (by omega)
              obtain ⟨v, hv⟩ : ∃ v, ef[k]? = some v := ⟨_, List.getElem?_eq_getElem hlt⟩
              obtain ⟨n, hmk, hn⟩ := unhide HMF k v hv
              have cE := (unhide HRF).cellAt k (by omega)
              rw [hv] at cE
              obtain ⟨p, cp, rfl, hpg⟩ := ownsRow_slice hmk
              have HK := hide hmk
              clear hmk
              have hq4 := quo4 k
              go_wp2
              go_loop [9] (fun j => ∃ q : Nat, q ≤ n ∧ j = .int .i64 q) (fun j => n - (intOf j).toNat)
              case atStart => exact ⟨0, Nat.zero_le _, rfl⟩
              case round =>
                obtain ⟨q, hq, rfl⟩ := hrel
                by_cases hlq : q < n
                · obtain ⟨g2, rfl⟩ := hpg (by omega)
                  have e2 := reps_two (.int .i64 (-1000 - (k : Int) / 4)) (.slice none 0 0) n q hlq
                  have cU := World.ownsRow.cells (unhide HK) (g := g2) rfl (q * 2) _ e2.1
                  have cV := World.ownsRow.cells (unhide HK) (g := g2) rfl (q * 2 + 1) _ e2.2
                  rw [Go.WideShapes.add_plain, Nat.zero_add] at cU cV
                  clear e2
                  have hnn := bytes_neq_none w
                  go_wp2
                  go_round
                  case rel => exact ⟨q + 1, hlq, by go_num⟩
                  case measure => simp [intOf]; omega
                · have hqn : q = n := by omega
                  subst hqn
                  go_wp2
                  go_round
                  case rel => exact ⟨k + 1, hlt, by go_num⟩
                  case measure => simp [intOf]; omega
            · have hkn : k = ef.length := by omega
              subst hkn
              clear HRF HMF hfp
              go_wp2
              go_loop [10] (fun i => ∃ k : Nat, k ≤ el.length ∧ i = .int .i64 k) (fun i => el.length - (intOf i).toNat)
              case atStart => exact ⟨0, Nat.zero_le _, rfl⟩
              case round =>
                obtain ⟨k, hk, rfl⟩ := hrel
                by_cases hlt : k < el.length
                · obtain ⟨g, rfl⟩ := hlp (by omega)
                  obtain ⟨v, hv⟩ : ∃ v, el[k]? = some v := ⟨_, List.getElem?_eq_getElem hlt⟩
                  obtain ⟨n, hmk, hn⟩ := unhide HML k v hv
                  have cE := (unhide HRL).cellAt k (by omega)
                  rw [hv] at cE
                  obtain ⟨p, cp, rfl, hpg⟩ := ownsRow_slice hmk
                  have HK := hide hmk
                  clear hmk
                  have hT := unhide HT k hlt
                  unfold TwoAt at hT
                  have t0 : w.cell? ⟨b.mg k, 0, none⟩ = some (.int .u8 ((k / 4 % 256 : Nat) : Int)) := by rw [Lib.cell_of_heap hT]; rfl
                  have t1 : w.cell? ⟨b.mg k, 1, none⟩ = some (.int .u8 ((k / 1024 % 256 : Nat) : Int)) := by rw [Lib.cell_of_heap hT]; rfl
                  clear hT
                  generalize hgm : b.mg k = gm at *
                  have hq4 := quo4 k
                  have hq5 := quo1024 k
                  go_wp2
                  go_loop [11] (fun j => ∃ q : Nat, q ≤ n ∧ j = .int .i64 q) (fun j => n - (intOf j).toNat)
                  case atStart => exact ⟨0, Nat.zero_le _, rfl⟩
                  case round =>
                    obtain ⟨q, hq, rfl⟩ := hrel
                    by_cases hlq : q < n
                    · obtain ⟨g2, rfl⟩ := hpg (by omega)
                      have cU := World.ownsRow.cellAt (unhide HK) q (by simp [mkL]; omega)
                      have e2 : (reps (mkL gm) n)[q]? = some (.slice (some ⟨gm, 0, none⟩) 2 2) := by simp [reps, hlq, mkL]
                      rw [e2] at cU
                      go_wp2
                      go_round
                      case rel => exact ⟨q + 1, hlq, by go_num⟩
                      case measure => simp [intOf]; omega
                    · have hqn : q = n := by omega
                      subst hqn
                      go_wp2
                      go_round
                      case rel => exact ⟨k + 1, hlt, by go_num⟩
                      case measure => simp [intOf]; omega
                · have hkn : k = el.length := by omega
                  subst hkn
                  go_wp2
                  exact bodyPost_ret (v := .bool true) (by simp [results, Tryz.results13, go_sem]) rfl ⟨rfl, rfl⟩
end Go.Proofs.YtkalonhalhdlaaaGreatDoor

/-
  What the methods of a hunter do that tell something (abort, judge, endFrame) and those that take a bit (hearOne, hearNought, hear): as in plain words (LPure); every block but the hunter's stands as it stood.
-/
namespace Go.Proofs.YtkalonhalhdlaaaGreatDoor
open Go.RowKit
def Bytes (w : World) (base : Nat) (f : Nat × List UInt8) (p : Option Addr) (cap : Nat) : Prop := w.ownsRow base 5 1 (.slice p f.2.length cap) f.2.length (Lib.byteCells f.2)
theorem below_drewN {B : Nat} {a w : World} (h : Below B a w) (n : Nat) : Below B a (w.drewN n) := ⟨h.os, h.tape, h.output, h.size, h.block⟩
end Go.Proofs.YtkalonhalhdlaaaGreatDoor

/-
  What one call of the book's keepsFounds does.
-/
namespace Go.Proofs.YtkalonhalhdlaaaGreatDoor
open Go.RowKit
theorem newsL (w : World) (l : List Value) (e : TypeId) : ∀ j x, l[j]? = some x → (w.alloc (.cells l.toArray e)).cell? ((⟨w.heap.size, 0, none⟩ : Addr).add j) = some x := by
  intro j x hj
  rw [Go.WideShapes.add_plain, Lib.cell_of_heap (alloc1_a w _), Nat.zero_add, List.getElem?_toArray]
  exact hj
end Go.Proofs.YtkalonhalhdlaaaGreatDoor

/-
  What one call of the book's keepsLists does.
-/
namespace Go.Proofs.YtkalonhalhdlaaaGreatDoor
open Go.RowKit
theorem infoBs : (Tryz.prog.info? 28).map (fun i => (i.zero, i.size, i.bytes)) = some (some (.slice none 0 0), 1, 24) := by kernel_rfl
theorem infoBss : (Tryz.prog.info? 38).map (fun i => (i.zero, i.size, i.bytes)) = some (some (.slice none 0 0), 1, 24) := by kernel_rfl
/-- A block of a list of lists: its own, or one of its lists'. -/
def lstBlk (v : Value) (ents : List Value) (k : Nat) : Prop := v.ownBlock = some k ∨ ∃ x ∈ ents, x.ownBlock = some k
/-- A list of lists of bytes, whatever is in them. -/
structure Lls (w : World) (v : Value) (ents : List Value) : Prop where
  row : w.ownsRow 0 28 1 v ents.length ents
  each : ∀ x ∈ ents, ∃ n xs, n ≤ 1048576 ∧ w.ownsRow 0 5 1 x n xs
  apart : ApartE ents
theorem ApartE.at {ents : List Value} (h : ApartE ents) {i : Nat} (hi : i < ents.length) : (∀ x ∈ ents.take i, ∀ k, x.ownBlock = some k → ents[i].ownBlock ≠ some k) ∧ ∀ x ∈ ents.drop (i + 1), ∀ k, x.ownBlock = some k → ents[i].ownBlock ≠ some k := by
  refine ⟨fun x hx k hk => ?_, fun x hx k hk => ?_⟩
  · obtain ⟨j, hj⟩ := List.getElem?_of_mem hx
    have hl := (List.getElem?_eq_some_iff.1 hj).1
    rw [List.length_take] at hl
    rw [List.getElem?_take, if_pos (by omega)] at hj
    exact h j i x _ k (by omega) hj (List.getElem?_eq_getElem hi) hk
  · obtain ⟨j, hj⟩ := List.getElem?_of_mem hx
    rw [List.getElem?_drop] at hj
    exact h (i + 1 + j) i x _ k (by omega) hj (List.getElem?_eq_getElem hi) hk
/-- Amid the loop over the lists: i lists of bytes are kept. -/
structure LMid (w : World) (wb : Nat) (hs ss v : Value) (b : Bk) (ents : List Value) (wr : World) (i : Nat) (c : Bk) : Prop where
  at_ : BkAt wr wb hs ss c
  len : c.eb.length = b.eb.length + 4 * i
  fs : c.fs = b.fs
  ls : c.ls = b.ls
  is : c.is = b.is
  ef : c.ef = b.ef
  el : c.el = b.el
  ei : c.ei = b.ei
  mg : c.mg = b.mg
  keeps : Keeps (fun k => k = wb ∨ b.blk k ∨ lstBlk v ents k) w wr
  blk : ∀ k, c.blk k → b.blk k ∨ (∃ x ∈ ents.take i, x.ownBlock = some k) ∨ w.heap.size ≤ k
  row : wr.ownsRow 0 28 1 v ents.length ents
  rest : ∀ x ∈ ents.drop i, ∃ n xs, n ≤ 1048576 ∧ wr.ownsRow 0 5 1 x n xs
theorem LMid.notRow {w : World} {wb : Nat} {hs ss v : Value} {b : Bk} {ents : List Value} {wr : World} {i : Nat} {c : Bk} (h : LMid w wb hs ss v b ents wr i c) (hv : Lls w v ents) (hvb : ∀ k, v.ownBlock = some k → ¬ b.blk k) {k : Nat} (hk : v.ownBlock = some k) : ¬ c.blk k := by
  intro hc
  have hl := (hv.row.lt k hk).2
  rcases h.blk k hc with h1 | ⟨x, hx, e⟩ | h1
  · exact hvb k hk h1
  · obtain ⟨n, xs, _, hr⟩ := hv.each x (List.mem_of_mem_take hx)
    obtain ⟨c1, e1⟩ := ownsRow_isRow hr e
    obtain ⟨c2, e2⟩ := ownsRow_isRow hv.row hk
    rw [e1] at e2
    simp at e2
  · omega
theorem LMid.step {w : World} {wb : Nat} {hs ss v : Value} {b : Bk} {ents : List Value} {wr : World} {i : Nat} {c : Bk} (h : LMid w wb hs ss v b ents wr i c) (hv : Lls w v ents) (hvb : ∀ k, v.ownBlock = some k → ¬ b.blk k) (hlt : ∀ x ∈ ents, ∀ k, x.ownBlock = some k → ¬ b.blk k) (hi : i < ents.length)
    (hN : b.eb.length + 4 * ents.length ≤ 4000000000000) :
    Calls Tryz.prog 34 #[.pointer (some ⟨wb, 2, none⟩), ents[i]] wr fun e w' => e = .returned (.tuple #[]) ∧ ∃ c', LMid w wb hs ss v b ents w' (i + 1) c' := by
  have hd : ents.drop i = ents[i] :: ents.drop (i + 1) := List.drop_eq_getElem_cons hi
  obtain ⟨n0, xs0, hn0, hr0⟩ := h.rest ents[i] (by rw [hd]; exact List.mem_cons_self)
  have hmem : ents[i] ∈ ents := List.getElem_mem hi
  obtain ⟨hap, hap2⟩ := hv.apart.at hi
  have hlw : ∀ x ∈ ents, ∀ k, x.ownBlock = some k → k < w.heap.size := fun x hx k hk => by
    obtain ⟨n, xs, _, hr⟩ := hv.each x hx
    exact (hr.lt k hk).2
  have hvb1 : ∀ k, ents[i].ownBlock = some k → ¬ c.blk k := by
    intro k hk hc
    rcases h.blk _ hc with h1 | ⟨x, hx, e2⟩ | h1
    · exact hlt _ hmem k hk h1
    · exact hap x hx k e2 hk
    · have := hlw _ hmem k hk
      omega
  refine (keeps_bk h.at_ hr0 hvb1 (by have := h.len; omega) hn0).mono ?_
  rintro e w' ⟨rfl, c', k1, k2, k3, k4, k5, k6, k7, k8, k9, k10, k11⟩
  refine ⟨rfl, c', ⟨k1, by have := h.len; omega, k3.trans h.fs, k4.trans h.ls, k5.trans h.is, k6.trans h.ef, k7.trans h.el, k8.trans h.ei, k9.trans h.mg, ?_, ?_, ?_, ?_⟩⟩
  · refine ⟨k10.os.trans h.keeps.os, k10.tape.trans h.keeps.tape, k10.output.trans h.keeps.output, Nat.le_trans h.keeps.size k10.size, fun k hk hx => ?_⟩
    rw [k10.block k (Nat.lt_of_lt_of_le hk h.keeps.size) ?_]
    · exact h.keeps.block k hk hx
    · rintro (rfl | hb | hb)
      · exact hx (.inl rfl)
      · rcases h.blk k (.inl hb.symm) with h1 | ⟨x, hx2, e2⟩ | h1
        · exact hx (.inr (.inl h1))
        · exact hx (.inr (.inr (.inr ⟨x, List.mem_of_mem_take hx2, e2⟩)))
        · omega
      · exact hx (.inr (.inr (.inr ⟨_, hmem, hb.symm⟩)))
  · intro k hk
    rcases k11 k hk with h1 | h1 | h1
    · rcases h.blk k h1 with h2 | ⟨x, hx, e2⟩ | h2
      · exact .inl h2
      · exact .inr (.inl ⟨x, by rw [List.take_add_one]; exact List.mem_append_left _ hx, e2⟩)
      · exact .inr (.inr h2)
    · exact .inr (.inl ⟨ents[i], by rw [List.take_add_one, List.getElem?_eq_getElem hi]; exact List.mem_append_right _ List.mem_cons_self, h1⟩)
    · exact .inr (.inr (Nat.le_trans h.keeps.size h1))
  · refine ownsRow_keepsB h.row k10 ?_
    rintro k hk (rfl | hb | hb)
    · obtain ⟨c2, hc2⟩ := ownsRow_isRow h.row hk
      have h3 := h.at_.head
      unfold WAt at h3
      rw [hc2] at h3
      simp at h3
    · exact h.notRow hv hvb hk (.inl hb.symm)
    · obtain ⟨c2, hc2⟩ := ownsRow_isRow h.row hk
      obtain ⟨c3, hc3⟩ := ownsRow_isRow hr0 hb.symm
      rw [hc2] at hc3
      simp at hc3
  · intro x hx
    have hx0 : x ∈ ents.drop i := by rw [hd]; exact List.mem_cons_of_mem _ hx
    obtain ⟨n, xs, hn, hr⟩ := h.rest x hx0
    refine ⟨n, xs, hn, ownsRow_keepsB hr k10 ?_⟩
    rintro k hk (rfl | hb | hb)
    · obtain ⟨c2, hc2⟩ := ownsRow_isRow hr hk
      have h3 := h.at_.head
      unfold WAt at h3
      rw [hc2] at h3
      simp at h3
    · obtain ⟨c2, hc2⟩ := ownsRow_isRow hr hk
      obtain ⟨c3, hc3⟩ := ownsRow_isRow h.at_.rb hb.symm
      rw [hc2] at hc3
      simp at hc3
    · exact hap2 x hx k hk hb.symm
theorem LMid.later {w : World} {wb : Nat} {hs ss v : Value} {b : Bk} {ents : List Value} {wr w' : World} {i : Nat} {c : Bk} (h : LMid w wb hs ss v b ents wr i c) (hb : Below wr.heap.size wr w') : LMid w wb hs ss v b ents w' i c :=
  ⟨h.at_.later hb, h.len, h.fs, h.ls, h.is, h.ef, h.el, h.ei, h.mg, h.keeps.trans (Keeps.of hb), h.blk, ownsRow_keepsB (X := fun _ => False) h.row (Keeps.of hb) (fun _ _ => id), fun x hx => by
    obtain ⟨n, xs, hn, hr⟩ := h.rest x hx
    exact ⟨n, xs, hn, ownsRow_keepsB (X := fun _ => False) hr (Keeps.of hb) (fun _ _ => id)⟩⟩
theorem list_step {wr : World} {g n cp k : Nat} {xs : List Value} {u : Value} (hk : k < n)
    (hv : wr.ownsRow 0 28 1 (.slice (some ⟨g, 0, none⟩) n cp) n (reps [u] k ++ xs.drop k)) (hx : xs.length = n) :
    (∃ x0, wr.cell? ⟨g, k, none⟩ = some x0) ∧ (∀ i, wr.frozen? ⟨g, i, none⟩ = false) ∧ (wr.setCell ⟨g, k, none⟩ u).ownsRow 0 28 1 (.slice (some ⟨g, 0, none⟩) n cp) n (reps [u] (k + 1) ++ xs.drop (k + 1)) ∧ Keeps (· = g) wr (wr.setCell ⟨g, k, none⟩ u) := by
  have h1 := (hv.stored k u).1
  rw [reps_put _ _ _ (by omega)] at h1
  have hl : (reps [u] k ++ xs.drop k).length = n * 1 := hv.1
  obtain ⟨x0, e0⟩ : ∃ x0, (reps [u] k ++ xs.drop k)[k]? = some x0 := ⟨_, List.getElem?_eq_getElem (by omega)⟩
  have c0 := World.ownsRow.cells hv (g := g) rfl k x0 e0
  rw [Go.WideShapes.add_plain, Nat.zero_add] at c0
  exact ⟨⟨x0, c0⟩, fun i => hv.frozenAt i, h1, (Keeps.refl _ wr).setB _ _⟩
/-- Two new bytes. -/
theorem two_made (wr : World) (n : Nat) : Below wr.heap.size wr (wr.alloc (.cells #[.int .u8 ((n : Int) / 4 % 256), .int .u8 ((n : Int) / 1024 % 256)] 5)).drew ∧ wr.heap.size ≤ wr.heap.size ∧ TwoAt (wr.alloc (.cells #[.int .u8 ((n : Int) / 4 % 256), .int .u8 ((n : Int) / 1024 % 256)] 5)).drew wr.heap.size n := by
  refine ⟨((Below.refl _ wr).alloc (Nat.le_refl _) _).drew, Nat.le_refl _, ?_⟩
  have h1 : ((n / 4 % 256 : Nat) : Int) = (n : Int) / 4 % 256 := by omega
  have h2 : ((n / 1024 % 256 : Nat) : Int) = (n : Int) / 1024 % 256 := by omega
  unfold TwoAt
  rw [h1, h2]
  exact alloc1_a wr _
set_option maxHeartbeats 8000000 in
set_option maxRecDepth 1000000 in
theorem keepsLists_any {w : World} {wb : Nat} {hs ss v : Value} {b : Bk} {ents : List Value} (X : Nat → Prop) (hX : X wb) (hXF : ∀ i, b.ls.ownBlock = some i → X i) (hXV : ∀ i, v.ownBlock = some i → X i) (h : BkAt w wb hs ss b) (hv : Lls w v ents) (hvb : ∀ k, v.ownBlock = some k → ¬ b.blk k) (hlt : ∀ x ∈ ents, ∀ k, x.ownBlock = some k → ¬ b.blk k)
    (hN : b.eb.length + 4 * ents.length ≤ 4000000000000) (hF : b.el.length ≤ 1099511627776) (hT : ents.length ≤ 1099511627776) :
    Calls Tryz.prog 44 #[.pointer (some ⟨wb, 2, none⟩), v] w fun e w' => e = .returned (.tuple #[]) ∧ ∃ wr c gm ls' v1 v2 v3, LMid w wb hs ss v b ents wr ents.length c ∧ TwoAt wr gm b.el.length ∧ w.heap.size ≤ gm ∧ ¬ c.blk gm ∧
      KInv wr X wb w' #[hs, ss, c.bs, b.fs, ls', b.is] 28 38 ls' (b.el ++ [v, v1, v2, v3]) (mkL gm) [(v, ents.length), (v1, ents.length + 1), (v2, ents.length + 2), (v3, ents.length + 3)] := by
  obtain ⟨i0, hi, hz0, hz1, hz2⟩ := info_parts infoBs
  obtain ⟨i1, hi1, hy0, hy1, hy2⟩ := info_parts infoBss
  have H0 : Hid (∃ c, LMid w wb hs ss v b ents w 0 c) := ⟨b, h, by omega, rfl, rfl, rfl, rfl, rfl, rfl, rfl, Keeps.refl _ _, fun k hk => .inl hk, hv.row, fun x hx => hv.each x (by simpa using hx)⟩
  have HS : Hid (∀ wr i c (hi : i < ents.length), LMid w wb hs ss v b ents wr i c → Calls Tryz.prog 34 #[.pointer (some ⟨wb, 2, none⟩), ents[i]] wr fun e w' => e = .returned (.tuple #[]) ∧ ∃ c', LMid w wb hs ss v b ents w' (i + 1) c') := fun wr i c hi hm => hm.step hv hvb hlt hi hN
  have HNR : Hid (∀ wr i c, LMid w wb hs ss v b ents wr i c → ∀ k, v.ownBlock = some k → ¬ c.blk k) := fun wr i c hm k hk => hm.notRow hv hvb hk
  obtain ⟨p, cp, rfl, hpg⟩ := ownsRow_slice hv.row
  clear h hv hlt hvb hN
  go_enter Tryz.func44, Tryz.ntmps44
  go_wp2
  go_loopw [4] (fun i wr => ∃ k : Nat, k ≤ ents.length ∧ i = .int .i64 k ∧ ∃ c, LMid w wb hs ss (.slice p ents.length cp) b ents wr k c) (fun i _ => ents.length - (intOf i).toNat)
  case atStart => exact ⟨0, Nat.zero_le _, rfl, unhide H0⟩
  case round =>
    obtain ⟨k, hk, rfl, c, hm⟩ := hrel
    clear H0
    by_cases hlt : k < ents.length
    · obtain ⟨g, rfl⟩ := hpg (by omega)
      have cV := World.ownsRow.cells hm.row (g := g) rfl k _ (List.getElem?_eq_getElem hlt)
      rw [Go.WideShapes.add_plain, Nat.zero_add] at cV
      have KC := hide (unhide HS wr k c hlt hm)
      clear hm
      generalize ents[k] = x at *
      go_wp2_with fail
      refine (unhide KC).mono ?_
      rintro e w' ⟨rfl, c', hm'⟩
      have HM := hide hm'
      clear hm' KC
      go_wp2
      go_roundw
      case rel => exact ⟨k + 1, hlt, by go_num, c', unhide HM⟩
      case measure => simp [intOf]; omega
    · have hkt : k = ents.length := by omega
      subst hkt
      clear HS
      have d4 := hm.at_.head.cell 4 _ rfl
      have hcf := hm.ls
      have hce := hm.el
      rw [hcf] at d4
      obtain ⟨fp, fc, hfs, _⟩ := ownsRow_slice hm.at_.rl
      rw [hcf, hce] at hfs
      rw [hfs] at d4
      have hq4 := quo4 b.el.length
      have hq5 := quo1024 b.el.length
      have HMID := hide hm
      clear hm
      go_upto_region 4 with fail
      go_cut [5] from 22 to 37 (fun m wx => ∃ gm W, m = .slice (some ⟨gm, 0, none⟩) 2 2 ∧ wx = W ∧ Below wr.heap.size wr W ∧ wr.heap.size ≤ gm ∧ TwoAt W gm b.el.length)
      case first =>
        go_region
        all_goals go_wp2_with fail
        all_goals go_meet
        all_goals exact ⟨_, _, rfl, rfl, two_made wr b.el.length⟩
      case rest =>
      obtain ⟨gm, WA, hm5, hw5, hbA, hgm, hTwo⟩ := hcut
      subst hm5
      rw [hw5]
      clear hw5 d4
      have HFM := hide ((unhide HMID).later hbA)
      have HTW := hide hTwo
      have HGM : Hid (w.heap.size ≤ gm ∧ ¬ c.blk gm) := ⟨Nat.le_trans (unhide HMID).keeps.size hgm, fun hc => by have := (unhide HMID).at_.lt hc; omega⟩
      clear HMID hbA hgm hTwo
      have HROW : Hid (WA.ownsRow 0 28 1 (.slice p ents.length cp) ents.length (reps (mkL gm) 0 ++ ents.drop 0)) := hide (by simpa [reps] using (unhide HFM).row)
      have HHEAD := hide (unhide HFM).at_.head
      have HFS := hide (unhide HFM).at_.rl
      rw [hcf, hce, hfs] at HFS
      go_wp2
      go_loopw [6] (fun i wq => ∃ k : Nat, k ≤ ents.length ∧ i = .int .i64 k ∧ wq.ownsRow 0 28 1 (.slice p ents.length cp) ents.length (reps (mkL gm) k ++ ents.drop k) ∧ Keeps (fun k => some k = (Value.slice p ents.length cp).ownBlock) WA wq) (fun i _ => ents.length - (intOf i).toNat)
      case atStart => exact ⟨0, Nat.zero_le _, rfl, unhide HROW, Keeps.refl _ _⟩
      case round =>
        obtain ⟨k, hk, rfl, hrow, hkp⟩ := hrel
        clear HROW
        by_cases hlt : k < ents.length
        · obtain ⟨g, rfl⟩ := hpg (by omega)
          obtain ⟨⟨x0, c0⟩, f0, hst, hks⟩ := list_step hlt hrow rfl
          have HS : Hid (_ ∧ _) := hide (And.intro hst (hkp.trans (hks.mono (fun i hi => by rw [hi]; rfl))))
          clear hst hks hrow hkp
          go_wp2
          go_roundw
          case rel =>
            obtain ⟨q1, q2⟩ := unhide HS
            exact ⟨k + 1, hlt, by go_num, q1, q2⟩
          case measure => simp [intOf]; omega
        · have hkt : k = ents.length := by omega
          subst hkt
          have hd : ents.drop ents.length = [] := List.drop_eq_nil_of_le (Nat.le_refl _)
          rw [hd, List.append_nil] at hrow
          obtain ⟨cbs, HBS⟩ : ∃ u, Hid (c.bs = u) := ⟨_, rfl⟩
          have hmk1 : MarksK wr 28 (mkL gm) (.slice p ents.length cp) ents.length := hrow
          have hvrow : ∀ i, some i = (Value.slice p ents.length cp).ownBlock → ∃ cc, WA.heap[i]? = some (.cells cc 28 (0, 0)) := fun i hi => ownsRow_isRow (unhide HFM).row hi.symm
          have hhd : WAt wr wb #[hs, ss, c.bs, b.fs, .slice fp b.el.length fc, b.is] := by
            have h1 := unhide HHEAD
            rw [hcf, hfs, (unhide HFM).fs, (unhide HFM).is] at h1
            refine h1.keeps hkp (fun hx => ?_)
            obtain ⟨cc, hc⟩ := hvrow wb hx
            unfold WAt at h1
            rw [hc] at h1
            simp at h1
          have hfr : wr.ownsRow 0 38 1 (.slice fp b.el.length fc) b.el.length b.el := by
            refine ownsRow_keepsB (unhide HFS) hkp (fun i hi hx => ?_)
            obtain ⟨cc, hc⟩ := hvrow i hx
            obtain ⟨c2, hc2⟩ := ownsRow_isRow (unhide HFS) hi
            rw [hc] at hc2
            simp at hc2
          rw [hfs] at hXF
          obtain ⟨cfs, HLS⟩ : ∃ u, Hid (b.fs = u) := ⟨_, rfl⟩
          obtain ⟨cis, HIS⟩ : ∃ u, Hid (b.is = u) := ⟨_, rfl⟩
          rw [unhide HLS, unhide HIS] at hhd
          rw [unhide HBS] at hhd
          have HK0 : Hid (KInv WA X wb wr #[hs, ss, cbs, cfs, .slice fp b.el.length fc, cis] 28 38 (.slice fp b.el.length fc) b.el (mkL gm) [(.slice p ents.length cp, ents.length)]) :=
            ⟨hhd, hfr, fun u hu => by simp at hu; subst hu; exact hmk1, hkp.mono (fun i hi => hXV i hi.symm), fun i hi => .inl (hXF i hi), fun u hu => by simp at hu; subst hu; exact fun i hi => .inl (hXV i hi)⟩
          have HMV : Hid (Mine X WA.heap.size (.slice p ents.length cp)) := fun i hi => .inl (hXV i hi)
          have HM0 := hide hmk1
          have hsz0 := (unhide HK0).keeps.size
          have ho : ∀ u ∈ mkL gm, u.oneCell' = true := by intro u hu; unfold mkL at hu; simp at hu; subst hu; rfl
          clear hmk1 hhd hfr hrow hkp hd HHEAD HFS hvrow HNR
          have hmk0 : 0 < (mkL gm).length := Nat.zero_lt_succ _
          have HA1 := hide (World.ownsRow.alloc (unhide HM0) (.cells #[.slice (some ⟨gm, 0, none⟩) 2 2] 28))
          go_wp2_with (at_builtin; refine wpList_append_marks _ rfl _ _ 38 rfl 28 i0 _ 24 (mkL gm) Tryz.underlying38 hi hz0 hz1 hz2 rfl hmk0 ho _ _ rfl (unhide HA1) ⟨wr.heap.size, 0, none⟩ 1 1 (by decide) rfl ?m1c1 ?m1c2 ?m1c3 ?_)
          case m1c1 => first | exact newsL wr (reps (mkL gm) 1) 28 | exact fun j u hj => hj
          case m1c2 => unfold maxLen; omega
          case m1c3 => omega
          intro v1 w1 hm1 hk1 hg1 hb1
          have HK1 := hide ((unhide HK0).mark (by decide) (by decide) (unhide HM0) (unhide HMV) (by first | (simp; done) | (simp; omega)) hm1 hk1 hg1 (by rw [alloc1_s]; exact hb1))
          obtain ⟨p1, cp1, rfl, _⟩ := ownsRow_slice hm1
          have HM1 := hide ((unhide HK1).marks (.slice p ents.length cp, ents.length) (by simp))
          have hsz1 := (unhide HK1).keeps.size
          clear hm1 hk1 hg1 hb1 HA1 HM0 HK0
          have HA2 := hide (World.ownsRow.alloc (unhide HM1) (.cells #[.slice (some ⟨gm, 0, none⟩) 2 2, .slice (some ⟨gm, 0, none⟩) 2 2] 28))
          go_wp2_with (at_builtin; refine wpList_append_marks _ rfl _ _ 38 rfl 28 i0 _ 24 (mkL gm) Tryz.underlying38 hi hz0 hz1 hz2 rfl hmk0 ho _ _ rfl (unhide HA2) ⟨w1.heap.size, 0, none⟩ 2 2 (by decide) rfl ?m2c1 ?m2c2 ?m2c3 ?_)
          case m2c1 => first | exact newsL w1 (reps (mkL gm) 2) 28 | exact fun j u hj => hj
          case m2c2 => unfold maxLen; omega
          case m2c3 => omega
          intro v2 w2 hm2 hk2 hg2 hb2
          have HK2 := hide ((unhide HK1).mark (by decide) (by decide) (unhide HM1) (unhide HMV) (by first | (simp; done) | (simp; omega)) hm2 hk2 hg2 (by rw [alloc1_s]; exact hb2))
          obtain ⟨p2, cp2, rfl, _⟩ := ownsRow_slice hm2
          have HM2 := hide ((unhide HK2).marks (.slice p ents.length cp, ents.length) (by simp))
          have hsz2 := (unhide HK2).keeps.size
          clear hm2 hk2 hg2 hb2 HA2 HM1 HK1
          have HA3 := hide (World.ownsRow.alloc (unhide HM2) (.cells #[.slice (some ⟨gm, 0, none⟩) 2 2, .slice (some ⟨gm, 0, none⟩) 2 2, .slice (some ⟨gm, 0, none⟩) 2 2] 28))
          go_wp2_with (at_builtin; refine wpList_append_marks _ rfl _ _ 38 rfl 28 i0 _ 24 (mkL gm) Tryz.underlying38 hi hz0 hz1 hz2 rfl hmk0 ho _ _ rfl (unhide HA3) ⟨w2.heap.size, 0, none⟩ 3 3 (by decide) rfl ?m3c1 ?m3c2 ?m3c3 ?_)
          case m3c1 => first | exact newsL w2 (reps (mkL gm) 3) 28 | exact fun j u hj => hj
          case m3c2 => unfold maxLen; omega
          case m3c3 => omega
          intro v3 w3 hm3 hk3 hg3 hb3
          have HK3 := hide ((unhide HK2).mark (by decide) (by decide) (unhide HM2) (unhide HMV) (by first | (simp; done) | (simp; omega)) hm3 hk3 hg3 (by rw [alloc1_s]; exact hb3))
          obtain ⟨p3, cp3, rfl, _⟩ := ownsRow_slice hm3
          have HM3 := hide ((unhide HK3).marks (.slice p ents.length cp, ents.length) (by simp))
          have hsz3 := (unhide HK3).keeps.size
          clear hm3 hk3 hg3 hb3 HA3 HM2 HK2
          have d0 := (unhide HK3).head.cell 4 _ rfl
          have HB0 := hide (World.ownsRow.alloc (unhide HK3).row (.cells #[.slice p ents.length cp] 38))
          go_wp2_with (at_builtin; refine wpList_append_own_at _ rfl _ _ 40 rfl 0 38 i1 _ 1 24 Tryz.underlying40 hi1 hy0 hy1 hy2 rfl (by decide) _ _ _ rfl (unhide HB0) ⟨w3.heap.size, 0, none⟩ 1 1 [.slice p ents.length cp] rfl rfl ?p0c1 ?p0c2 ?p0c3 ?p0c4 ?p0c5 ?_)
          case p0c2 => first | rfl | (intro u hu; simp at hu; subst hu; rfl)
          case p0c3 => unfold maxLen; first | omega | (simp; omega)
          case p0c4 => first | omega | (simp; omega)
          intro b0 y0 hown0 hg0 _ hb0
          have hd0 := (unhide HK3).pushHead (by decide) hg0
          have e0 := hd0.cell 4 _ rfl
          have f0 := hd0.fz
          have HP0 : Hid (KInv WA X wb (y0.setCell ⟨wb, 4, none⟩ b0) #[hs, ss, cbs, cfs, b0, cis] 28 38 b0 (b.el ++ [.slice p ents.length cp]) (mkL gm) _) := (unhide HK3).push hX (by decide) (by decide) (by decide) (by simpa using hown0) hg0 hb0 (by omega) 4
          obtain ⟨bp0, bc0, rfl, _⟩ := ownsRow_slice hown0
          have hyz0 : WA.heap.size ≤ y0.heap.size := by have := (unhide HP0).keeps.size; rwa [size_setCell] at this
          clear hown0 hg0 hb0 hd0 d0 HB0 HK3
          have d1 := (unhide HP0).head.cell 4 _ rfl
          have HB1 := hide (World.ownsRow.alloc (unhide HP0).row (.cells #[.slice p1 (ents.length + 1) cp1] 38))
          go_wp2_with (at_builtin; refine wpList_append_own_at _ rfl _ _ 40 rfl 0 38 i1 _ 1 24 Tryz.underlying40 hi1 hy0 hy1 hy2 rfl (by decide) _ _ _ rfl (unhide HB1) ⟨y0.heap.size, 0, none⟩ 1 1 [.slice p1 (ents.length + 1) cp1] rfl rfl ?p1c1 ?p1c2 ?p1c3 ?p1c4 ?p1c5 ?_)
          case p1c1 => have q := news1 (y0.setCell ⟨wb, 4, none⟩ (.slice bp0 (b.el.length + 1) bc0)) (.slice p1 (ents.length + 1) cp1) 38; rw [size_setCell] at q; exact q
          case p1c5 => exact Nat.zero_le _
          case p1c2 => first | rfl | (intro u hu; simp at hu; subst hu; rfl)
          case p1c3 => unfold maxLen; first | omega | (simp; omega)
          case p1c4 => first | omega | (simp; omega)
          intro b1 y1 hown1 hg1 _ hb1
          have hd1 := (unhide HP0).pushHead (by decide) hg1
          have e1 := hd1.cell 4 _ rfl
          have f1 := hd1.fz
          have HP1 : Hid (KInv WA X wb (y1.setCell ⟨wb, 4, none⟩ b1) #[hs, ss, cbs, cfs, b1, cis] 28 38 b1 (b.el ++ [.slice p ents.length cp] ++ [.slice p1 (ents.length + 1) cp1]) (mkL gm) _) := (unhide HP0).push hX (by decide) (by decide) (by decide) (by simpa using hown1) hg1 hb1 (by omega) 4
          obtain ⟨bp1, bc1, rfl, _⟩ := ownsRow_slice hown1
          have hyz1 : WA.heap.size ≤ y1.heap.size := by have := (unhide HP1).keeps.size; rwa [size_setCell] at this
          clear hown1 hg1 hb1 hd1 d1 HB1 HP0
          have d2 := (unhide HP1).head.cell 4 _ rfl
          have HB2 := hide (World.ownsRow.alloc (unhide HP1).row (.cells #[.slice p2 (ents.length + 2) cp2] 38))
          go_wp2_with (at_builtin; refine wpList_append_own_at _ rfl _ _ 40 rfl 0 38 i1 _ 1 24 Tryz.underlying40 hi1 hy0 hy1 hy2 rfl (by decide) _ _ _ rfl (unhide HB2) ⟨y1.heap.size, 0, none⟩ 1 1 [.slice p2 (ents.length + 2) cp2] rfl rfl ?p2c1 ?p2c2 ?p2c3 ?p2c4 ?p2c5 ?_)
          case p2c1 => have q := news1 (y1.setCell ⟨wb, 4, none⟩ (.slice bp1 (b.el.length + 2) bc1)) (.slice p2 (ents.length + 2) cp2) 38; rw [size_setCell] at q; exact q
          case p2c5 => exact Nat.zero_le _
          case p2c2 => first | rfl | (intro u hu; simp at hu; subst hu; rfl)
          case p2c3 => unfold maxLen; first | omega | (simp; omega)
          case p2c4 => first | omega | (simp; omega)
          intro b2 y2 hown2 hg2 _ hb2
          have hd2 := (unhide HP1).pushHead (by decide) hg2
          have e2 := hd2.cell 4 _ rfl
          have f2 := hd2.fz
          have HP2 : Hid (KInv WA X wb (y2.setCell ⟨wb, 4, none⟩ b2) #[hs, ss, cbs, cfs, b2, cis] 28 38 b2 (b.el ++ [.slice p ents.length cp] ++ [.slice p1 (ents.length + 1) cp1] ++ [.slice p2 (ents.length + 2) cp2]) (mkL gm) _) := (unhide HP1).push hX (by decide) (by decide) (by decide) (by simpa using hown2) hg2 hb2 (by omega) 4
          obtain ⟨bp2, bc2, rfl, _⟩ := ownsRow_slice hown2
          have hyz2 : WA.heap.size ≤ y2.heap.size := by have := (unhide HP2).keeps.size; rwa [size_setCell] at this
          clear hown2 hg2 hb2 hd2 d2 HB2 HP1
          have d3 := (unhide HP2).head.cell 4 _ rfl
          have HB3 := hide (World.ownsRow.alloc (unhide HP2).row (.cells #[.slice p3 (ents.length + 3) cp3] 38))
          go_wp2_with (at_builtin; refine wpList_append_own_at _ rfl _ _ 40 rfl 0 38 i1 _ 1 24 Tryz.underlying40 hi1 hy0 hy1 hy2 rfl (by decide) _ _ _ rfl (unhide HB3) ⟨y2.heap.size, 0, none⟩ 1 1 [.slice p3 (ents.length + 3) cp3] rfl rfl ?p3c1 ?p3c2 ?p3c3 ?p3c4 ?p3c5 ?_)
          case p3c1 => have q := news1 (y2.setCell ⟨wb, 4, none⟩ (.slice bp2 (b.el.length + 3) bc2)) (.slice p3 (ents.length + 3) cp3) 38; rw [size_setCell] at q; exact q
          case p3c5 => exact Nat.zero_le _
          case p3c2 => first | rfl | (intro u hu; simp at hu; subst hu; rfl)
          case p3c3 => unfold maxLen; first | omega | (simp; omega)
          case p3c4 => first | omega | (simp; omega)
          intro b3 y3 hown3 hg3 _ hb3
          have hd3 := (unhide HP2).pushHead (by decide) hg3
          have e3 := hd3.cell 4 _ rfl
          have f3 := hd3.fz
          have HP3 : Hid (KInv WA X wb (y3.setCell ⟨wb, 4, none⟩ b3) #[hs, ss, cbs, cfs, b3, cis] 28 38 b3 (b.el ++ [.slice p ents.length cp] ++ [.slice p1 (ents.length + 1) cp1] ++ [.slice p2 (ents.length + 2) cp2] ++ [.slice p3 (ents.length + 3) cp3]) (mkL gm) _) := (unhide HP2).push hX (by decide) (by decide) (by decide) (by simpa using hown3) hg3 hb3 (by omega) 4
          obtain ⟨bp3, bc3, rfl, _⟩ := ownsRow_slice hown3
          have hyz3 : WA.heap.size ≤ y3.heap.size := by have := (unhide HP3).keeps.size; rwa [size_setCell] at this
          clear hown3 hg3 hb3 hd3 d3 HB3 HP2
          go_wp2
          have q := unhide HP3
          simp only [List.append_assoc, List.cons_append, List.nil_append] at q
          go_end0
          rw [← unhide HBS, ← unhide HLS, ← unhide HIS] at q
          exact ⟨rfl, WA, c, gm, _, _, _, _, unhide HFM, unhide HTW, (unhide HGM).1, (unhide HGM).2, q⟩
end Go.Proofs.YtkalonhalhdlaaaGreatDoor
