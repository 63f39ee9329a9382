import Derived.Test.YtkalonhalhdlaaaGreatDoorG07
import Derived.Test.YtkalonhalhdlaaaGreatDoorG02
import Derived.Deep.CutRange
import Derived.Maps.AppendAt
import Derived.Test.YtkalonhalhdlaaaGreatDoorG01
import Derived.Test.YtkalonhalhdlaaaGreatDoorG06
import Derived.Test.YtkalonhalhdlaaaGreatDoorProg
import Derived.Test.YtkalonhalhdlaaaGreatDoorG04
import Derived.WalkKit
import Derived.Laws.RangeAny
import Derived.Test.YtkalonhalhdlaaaGreatDoorG03
import Derived.BigQuiet
import Derived.Lib.ConvBytes
import Derived.Test.YtkalonhalhdlaaaGreatDoorRows
import Derived.ProofKit
import Derived.LaidMore
import Derived.OpenShut
/-
  What one call of the book's keepsLists does.
-/
namespace Go.Proofs.YtkalonhalhdlaaaGreatDoor
open Go.RowKit
theorem infoBs : (Tryz.prog.info? 28).map (fun i => (i.zero, i.size, i.bytes)) = some (some (.slice none 0 0), 1, 24) := by kernel_rfl
theorem infoBss : (Tryz.prog.info? 38).map (fun i => (i.zero, i.size, i.bytes)) = some (some (.slice none 0 0), 1, 24) := by kernel_rfl
/-- A block of a list of lists: its own, or one of its lists'. -/
def lstBlk (v : Value) (ents : List Value) (k : Nat) : Prop := v.ownBlock = some k ∨ ∃ x ∈ ents, x.ownBlock = some k
/-- A list of lists of bytes, whatever is in them. -/
structure Lls (w : World) (v : Value) (ents : List Value) : Prop where
  row : w.ownsRow 0 28 1 v ents.length ents
  each : ∀ x ∈ ents, ∃ n xs, n ≤ 1048576 ∧ w.ownsRow 0 5 1 x n xs
  apart : ApartE ents
theorem ApartE.at {ents : List Value} (h : ApartE ents) {i : Nat} (hi : i < ents.length) : (∀ x ∈ ents.take i, ∀ k, x.ownBlock = some k → ents[i].ownBlock ≠ some k) ∧ ∀ x ∈ ents.drop (i + 1), ∀ k, x.ownBlock = some k → ents[i].ownBlock ≠ some k := by
  refine ⟨fun x hx k hk => ?_, fun x hx k hk => ?_⟩
  · obtain ⟨j, hj⟩ := List.getElem?_of_mem hx
    have hl := (List.getElem?_eq_some_iff.1 hj).1
    rw [List.length_take] at hl
    rw [List.getElem?_take, if_pos (by omega)] at hj
    exact h j i x _ k (by omega) hj (List.getElem?_eq_getElem hi) hk
  · obtain ⟨j, hj⟩ := List.getElem?_of_mem hx
    rw [List.getElem?_drop] at hj
    exact h (i + 1 + j) i x _ k (by omega) hj (List.getElem?_eq_getElem hi) hk
/-- Amid the loop over the lists: i lists of bytes are kept. -/
structure LMid (w : World) (wb : Nat) (hs ss v : Value) (b : Bk) (ents : List Value) (wr : World) (i : Nat) (c : Bk) : Prop where
  at_ : BkAt wr wb hs ss c
  len : c.eb.length = b.eb.length + 4 * i
  fs : c.fs = b.fs
  ls : c.ls = b.ls
  is : c.is = b.is
  ef : c.ef = b.ef
  el : c.el = b.el
  ei : c.ei = b.ei
  mg : c.mg = b.mg
  keeps : Keeps (fun k => k = wb ∨ b.blk k ∨ lstBlk v ents k) w wr
  blk : ∀ k, c.blk k → b.blk k ∨ (∃ x ∈ ents.take i, x.ownBlock = some k) ∨ w.heap.size ≤ k
  row : wr.ownsRow 0 28 1 v ents.length ents
  rest : ∀ x ∈ ents.drop i, ∃ n xs, n ≤ 1048576 ∧ wr.ownsRow 0 5 1 x n xs
theorem LMid.notRow {w : World} {wb : Nat} {hs ss v : Value} {b : Bk} {ents : List Value} {wr : World} {i : Nat} {c : Bk} (h : LMid w wb hs ss v b ents wr i c) (hv : Lls w v ents) (hvb : ∀ k, v.ownBlock = some k → ¬ b.blk k) {k : Nat} (hk : v.ownBlock = some k) : ¬ c.blk k := by
  intro hc
  have hl := (hv.row.lt k hk).2
  rcases h.blk k hc with h1 | ⟨x, hx, e⟩ | h1
  · exact hvb k hk h1
  · obtain ⟨n, xs, _, hr⟩ := hv.each x (List.mem_of_mem_take hx)
    obtain ⟨c1, e1⟩ := ownsRow_isRow hr e
    obtain ⟨c2, e2⟩ := ownsRow_isRow hv.row hk
    rw [e1] at e2
    simp at e2
  · omega
theorem LMid.step {w : World} {wb : Nat} {hs ss v : Value} {b : Bk} {ents : List Value} {wr : World} {i : Nat} {c : Bk} (h : LMid w wb hs ss v b ents wr i c) (hv : Lls w v ents) (hvb : ∀ k, v.ownBlock = some k → ¬ b.blk k) (hlt : ∀ x ∈ ents, ∀ k, x.ownBlock = some k → ¬ b.blk k) (hi : i < ents.length)
    (hN : b.eb.length + 4 * ents.length ≤ 4000000000000) :
    Calls Tryz.prog 34 #[.pointer (some ⟨wb, 2, none⟩), ents[i]] wr fun e w' => e = .returned (.tuple #[]) ∧ ∃ c', LMid w wb hs ss v b ents w' (i + 1) c' := by
  have hd : ents.drop i = ents[i] :: ents.drop (i + 1) := List.drop_eq_getElem_cons hi
  obtain ⟨n0, xs0, hn0, hr0⟩ := h.rest ents[i] (by rw [hd]; exact List.mem_cons_self)
  have hmem : ents[i] ∈ ents := List.getElem_mem hi
  obtain ⟨hap, hap2⟩ := hv.apart.at hi
  have hlw : ∀ x ∈ ents, ∀ k, x.ownBlock = some k → k < w.heap.size := fun x hx k hk => by
    obtain ⟨n, xs, _, hr⟩ := hv.each x hx
    exact (hr.lt k hk).2
  have hvb1 : ∀ k, ents[i].ownBlock = some k → ¬ c.blk k := by
    intro k hk hc
    rcases h.blk _ hc with h1 | ⟨x, hx, e2⟩ | h1
    · exact hlt _ hmem k hk h1
    · exact hap x hx k e2 hk
    · have := hlw _ hmem k hk
      omega
  refine (keeps_bk h.at_ hr0 hvb1 (by have := h.len; omega) hn0).mono ?_
  rintro e w' ⟨rfl, c', k1, k2, k3, k4, k5, k6, k7, k8, k9, k10, k11⟩
  refine ⟨rfl, c', ⟨k1, by have := h.len; omega, k3.trans h.fs, k4.trans h.ls, k5.trans h.is, k6.trans h.ef, k7.trans h.el, k8.trans h.ei, k9.trans h.mg, ?_, ?_, ?_, ?_⟩⟩
  · refine ⟨k10.os.trans h.keeps.os, k10.tape.trans h.keeps.tape, k10.output.trans h.keeps.output, Nat.le_trans h.keeps.size k10.size, fun k hk hx => ?_⟩
    rw [k10.block k (Nat.lt_of_lt_of_le hk h.keeps.size) ?_]
    · exact h.keeps.block k hk hx
    · rintro (rfl | hb | hb)
      · exact hx (.inl rfl)
      · rcases h.blk k (.inl hb.symm) with h1 | ⟨x, hx2, e2⟩ | h1
        · exact hx (.inr (.inl h1))
        · exact hx (.inr (.inr (.inr ⟨x, List.mem_of_mem_take hx2, e2⟩)))
        · omega
      · exact hx (.inr (.inr (.inr ⟨_, hmem, hb.symm⟩)))
  · intro k hk
    rcases k11 k hk with h1 | h1 | h1
    · rcases h.blk k h1 with h2 | ⟨x, hx, e2⟩ | h2
      · exact .inl h2
      · exact .inr (.inl ⟨x, by rw [List.take_add_one]; exact List.mem_append_left _ hx, e2⟩)
      · exact .inr (.inr h2)
    · exact .inr (.inl ⟨ents[i], by rw [List.take_add_one, List.getElem?_eq_getElem hi]; exact List.mem_append_right _ List.mem_cons_self, h1⟩)
    · exact .inr (.inr (Nat.le_trans h.keeps.size h1))
  · refine ownsRow_keepsB h.row k10 ?_
    rintro k hk (rfl | hb | hb)
    · obtain ⟨c2, hc2⟩ := ownsRow_isRow h.row hk
      have h3 := h.at_.head
      unfold WAt at h3
      rw [hc2] at h3
      simp at h3
    · exact h.notRow hv hvb hk (.inl hb.symm)
    · obtain ⟨c2, hc2⟩ := ownsRow_isRow h.row hk
      obtain ⟨c3, hc3⟩ := ownsRow_isRow hr0 hb.symm
      rw [hc2] at hc3
      simp at hc3
  · intro x hx
    have hx0 : x ∈ ents.drop i := by rw [hd]; exact List.mem_cons_of_mem _ hx
    obtain ⟨n, xs, hn, hr⟩ := h.rest x hx0
    refine ⟨n, xs, hn, ownsRow_keepsB hr k10 ?_⟩
    rintro k hk (rfl | hb | hb)
    · obtain ⟨c2, hc2⟩ := ownsRow_isRow hr hk
      have h3 := h.at_.head
      unfold WAt at h3
      rw [hc2] at h3
      simp at h3
    · obtain ⟨c2, hc2⟩ := ownsRow_isRow hr hk
      obtain ⟨c3, hc3⟩ := ownsRow_isRow h.at_.rb hb.symm
      rw [hc2] at hc3
      simp at hc3
    · exact hap2 x hx k hk hb.symm
theorem LMid.later {w : World} {wb : Nat} {hs ss v : Value} {b : Bk} {ents : List Value} {wr w' : World} {i : Nat} {c : Bk} (h : LMid w wb hs ss v b ents wr i c) (hb : Below wr.heap.size wr w') : LMid w wb hs ss v b ents w' i c :=
  ⟨h.at_.later hb, h.len, h.fs, h.ls, h.is, h.ef, h.el, h.ei, h.mg, h.keeps.trans (Keeps.of hb), h.blk, ownsRow_keepsB (X := fun _ => False) h.row (Keeps.of hb) (fun _ _ => id), fun x hx => by
    obtain ⟨n, xs, hn, hr⟩ := h.rest x hx
    exact ⟨n, xs, hn, ownsRow_keepsB (X := fun _ => False) hr (Keeps.of hb) (fun _ _ => id)⟩⟩
theorem list_step {wr : World} {g n cp k : Nat} {xs : List Value} {u : Value} (hk : k < n)
    (hv : wr.ownsRow 0 28 1 (.slice (some ⟨g, 0, none⟩) n cp) n (reps [u] k ++ xs.drop k)) (hx : xs.length = n) :
    (∃ x0, wr.cell? ⟨g, k, none⟩ = some x0) ∧ (∀ i, wr.frozen? ⟨g, i, none⟩ = false) ∧ (wr.setCell ⟨g, k, none⟩ u).ownsRow 0 28 1 (.slice (some ⟨g, 0, none⟩) n cp) n (reps [u] (k + 1) ++ xs.drop (k + 1)) ∧ Keeps (· = g) wr (wr.setCell ⟨g, k, none⟩ u) := by
  have h1 := (hv.stored k u).1
  rw [reps_put _ _ _ (by omega)] at h1
  have hl : (reps [u] k ++ xs.drop k).length = n * 1 := hv.1
  obtain ⟨x0, e0⟩ : ∃ x0, (reps [u] k ++ xs.drop k)[k]? = some x0 := ⟨_, List.getElem?_eq_getElem (by omega)⟩
  have c0 := World.ownsRow.cells hv (g := g) rfl k x0 e0
  rw [Go.WideShapes.add_plain, Nat.zero_add] at c0
  exact ⟨⟨x0, c0⟩, fun i => hv.frozenAt i, h1, (Keeps.refl _ wr).setB _ _⟩
/-- Two new bytes. -/
theorem two_made (wr : World) (n : Nat) : Below wr.heap.size wr (wr.alloc (.cells #[.int .u8 ((n : Int) / 4 % 256), .int .u8 ((n : Int) / 1024 % 256)] 5)).drew ∧ wr.heap.size ≤ wr.heap.size ∧ TwoAt (wr.alloc (.cells #[.int .u8 ((n : Int) / 4 % 256), .int .u8 ((n : Int) / 1024 % 256)] 5)).drew wr.heap.size n := by
  refine ⟨((Below.refl _ wr).alloc (Nat.le_refl _) _).drew, Nat.le_refl _, ?_⟩
  have h1 : ((n / 4 % 256 : Nat) : Int) = (n : Int) / 4 % 256 := by omega
  have h2 : ((n / 1024 % 256 : Nat) : Int) = (n : Int) / 1024 % 256 := by omega
  unfold TwoAt
  rw [h1, h2]
  exact alloc1_a wr _
set_option maxHeartbeats 8000000 in
set_option maxRecDepth 1000000 in
theorem keepsLists_any {w : World} {wb : Nat} {hs ss v : Value} {b : Bk} {ents : List Value} (X : Nat → Prop) (hX : X wb) (hXF : ∀ i, b.ls.ownBlock = some i → X i) (hXV : ∀ i, v.ownBlock = some i → X i) (h : BkAt w wb hs ss b) (hv : Lls w v ents) (hvb : ∀ k, v.ownBlock = some k → ¬ b.blk k) (hlt : ∀ x ∈ ents, ∀ k, x.ownBlock = some k → ¬ b.blk k)
    (hN : b.eb.length + 4 * ents.length ≤ 4000000000000) (hF : b.el.length ≤ 1099511627776) (hT : ents.length ≤ 1099511627776) :
    Calls Tryz.prog 44 #[.pointer (some ⟨wb, 2, none⟩), v] w fun e w' => e = .returned (.tuple #[]) ∧ ∃ wr c gm ls' v1 v2 v3, LMid w wb hs ss v b ents wr ents.length c ∧ TwoAt wr gm b.el.length ∧ w.heap.size ≤ gm ∧ ¬ c.blk gm ∧
      KInv wr X wb w' #[hs, ss, c.bs, b.fs, ls', b.is] 28 38 ls' (b.el ++ [v, v1, v2, v3]) (mkL gm) [(v, ents.length), (v1, ents.length + 1), (v2, ents.length + 2), (v3, ents.length + 3)] := by
  obtain ⟨i0, hi, hz0, hz1, hz2⟩ := info_parts infoBs
  obtain ⟨i1, hi1, hy0, hy1, hy2⟩ := info_parts infoBss
  have H0 : Hid (∃ c, LMid w wb hs ss v b ents w 0 c) := ⟨b, h, by omega, rfl, rfl, rfl, rfl, rfl, rfl, rfl, Keeps.refl _ _, fun k hk => .inl hk, hv.row, fun x hx => hv.each x (by simpa using hx)⟩
  have HS : Hid (∀ wr i c (hi : i < ents.length), LMid w wb hs ss v b ents wr i c → Calls Tryz.prog 34 #[.pointer (some ⟨wb, 2, none⟩), ents[i]] wr fun e w' => e = .returned (.tuple #[]) ∧ ∃ c', LMid w wb hs ss v b ents w' (i + 1) c') := fun wr i c hi hm => hm.step hv hvb hlt hi hN
  have HNR : Hid (∀ wr i c, LMid w wb hs ss v b ents wr i c → ∀ k, v.ownBlock = some k → ¬ c.blk k) := fun wr i c hm k hk => hm.notRow hv hvb hk
  obtain ⟨p, cp, rfl, hpg⟩ := ownsRow_slice hv.row
  clear h hv hlt hvb hN
  go_enter Tryz.func44, Tryz.ntmps44
  go_wp2
  go_loopw [4] (fun i wr => ∃ k : Nat, k ≤ ents.length ∧ i = .int .i64 k ∧ ∃ c, LMid w wb hs ss (.slice p ents.length cp) b ents wr k c) (fun i _ => ents.length - (intOf i).toNat)
  case atStart => exact ⟨0, Nat.zero_le _, rfl, unhide H0⟩
  case round =>
    obtain ⟨k, hk, rfl, c, hm⟩ := hrel
    clear H0
    by_cases hlt : k < ents.length
    · obtain ⟨g, rfl⟩ := hpg (by omega)
      have cV := World.ownsRow.cells hm.row (g := g) rfl k _ (List.getElem?_eq_getElem hlt)
      rw [Go.WideShapes.add_plain, Nat.zero_add] at cV
      have KC := hide (unhide HS wr k c hlt hm)
      clear hm
      generalize ents[k] = x at *
      go_wp2_with fail
      refine (unhide KC).mono ?_
      rintro e w' ⟨rfl, c', hm'⟩
      have HM := hide hm'
      clear hm' KC
      go_wp2
      go_roundw
      case rel => exact ⟨k + 1, hlt, by go_num, c', unhide HM⟩
      case measure => simp [intOf]; omega
    · have hkt : k = ents.length := by omega
      subst hkt
      clear HS
      have d4 := hm.at_.head.cell 4 _ rfl
      have hcf := hm.ls
      have hce := hm.el
      rw [hcf] at d4
      obtain ⟨fp, fc, hfs, _⟩ := ownsRow_slice hm.at_.rl
      rw [hcf, hce] at hfs
      rw [hfs] at d4
      have hq4 := quo4 b.el.length
      have hq5 := quo1024 b.el.length
      have HMID := hide hm
      clear hm
      go_upto_region 4 with fail
      go_cut [5] from 22 to 37 (fun m wx => ∃ gm W, m = .slice (some ⟨gm, 0, none⟩) 2 2 ∧ wx = W ∧ Below wr.heap.size wr W ∧ wr.heap.size ≤ gm ∧ TwoAt W gm b.el.length)
      case first =>
        go_region
        all_goals go_wp2_with fail
        all_goals go_meet
        all_goals exact ⟨_, _, rfl, rfl, two_made wr b.el.length⟩
      case rest =>
      obtain ⟨gm, WA, hm5, hw5, hbA, hgm, hTwo⟩ := hcut
      subst hm5
      rw [hw5]
      clear hw5 d4
      have HFM := hide ((unhide HMID).later hbA)
      have HTW := hide hTwo
      have HGM : Hid (w.heap.size ≤ gm ∧ ¬ c.blk gm) := ⟨Nat.le_trans (unhide HMID).keeps.size hgm, fun hc => by have := (unhide HMID).at_.lt hc; omega⟩
      clear HMID hbA hgm hTwo
      have HROW : Hid (WA.ownsRow 0 28 1 (.slice p ents.length cp) ents.length (reps (mkL gm) 0 ++ ents.drop 0)) := hide (by simpa [reps] using (unhide HFM).row)
      have HHEAD := hide (unhide HFM).at_.head
      have HFS := hide (unhide HFM).at_.rl
      rw [hcf, hce, hfs] at HFS
      go_wp2
      go_loopw [6] (fun i wq => ∃ k : Nat, k ≤ ents.length ∧ i = .int .i64 k ∧ wq.ownsRow 0 28 1 (.slice p ents.length cp) ents.length (reps (mkL gm) k ++ ents.drop k) ∧ Keeps (fun k => some k = (Value.slice p ents.length cp).ownBlock) WA wq) (fun i _ => ents.length - (intOf i).toNat)
      case atStart => exact ⟨0, Nat.zero_le _, rfl, unhide HROW, Keeps.refl _ _⟩
      case round =>
        obtain ⟨k, hk, rfl, hrow, hkp⟩ := hrel
        clear HROW
        by_cases hlt : k < ents.length
        · obtain ⟨g, rfl⟩ := hpg (by omega)
          obtain ⟨⟨x0, c0⟩, f0, hst, hks⟩ := list_step hlt hrow rfl
          have HS : Hid (_ ∧ _) := hide (And.intro hst (hkp.trans (hks.mono (fun i hi => by rw [hi]; rfl))))
          clear hst hks hrow hkp
          go_wp2
          go_roundw
          case rel =>
            obtain ⟨q1, q2⟩ := unhide HS
            exact ⟨k + 1, hlt, by go_num, q1, q2⟩
          case measure => simp [intOf]; omega
        · have hkt : k = ents.length := by omega
          subst hkt
          have hd : ents.drop ents.length = [] := List.drop_eq_nil_of_le (Nat.le_refl _)
          rw [hd, List.append_nil] at hrow
          obtain ⟨cbs, HBS⟩ : ∃ u, Hid (c.bs = u) := ⟨_, rfl⟩
          have hmk1 : MarksK wr 28 (mkL gm) (.slice p ents.length cp) ents.length := hrow
          have hvrow : ∀ i, some i = (Value.slice p ents.length cp).ownBlock → ∃ cc, WA.heap[i]? = some (.cells cc 28 (0, 0)) := fun i hi => ownsRow_isRow (unhide HFM).row hi.symm
          have hhd : WAt wr wb #[hs, ss, c.bs, b.fs, .slice fp b.el.length fc, b.is] := by
            have h1 := unhide HHEAD
            rw [hcf, hfs, (unhide HFM).fs, (unhide HFM).is] at h1
            refine h1.keeps hkp (fun hx => ?_)
            obtain ⟨cc, hc⟩ := hvrow wb hx
            unfold WAt at h1
            rw [hc] at h1
            simp at h1
          have hfr : wr.ownsRow 0 38 1 (.slice fp b.el.length fc) b.el.length b.el := by
            refine ownsRow_keepsB (unhide HFS) hkp (fun i hi hx => ?_)
            obtain ⟨cc, hc⟩ := hvrow i hx
            obtain ⟨c2, hc2⟩ := ownsRow_isRow (unhide HFS) hi
            rw [hc] at hc2
            simp at hc2
          rw [hfs] at hXF
          obtain ⟨cfs, HLS⟩ : ∃ u, Hid (b.fs = u) := ⟨_, rfl⟩
          obtain ⟨cis, HIS⟩ : ∃ u, Hid (b.is = u) := ⟨_, rfl⟩
          rw [unhide HLS, unhide HIS] at hhd
          rw [unhide HBS] at hhd
          have HK0 : Hid (KInv WA X wb wr #[hs, ss, cbs, cfs, .slice fp b.el.length fc, cis] 28 38 (.slice fp b.el.length fc) b.el (mkL gm) [(.slice p ents.length cp, ents.length)]) :=
            ⟨hhd, hfr, fun u hu => by simp at hu; subst hu; exact hmk1, hkp.mono (fun i hi => hXV i hi.symm), fun i hi => .inl (hXF i hi), fun u hu => by simp at hu; subst hu; exact fun i hi => .inl (hXV i hi)⟩
          have HMV : Hid (Mine X WA.heap.size (.slice p ents.length cp)) := fun i hi => .inl (hXV i hi)
          have HM0 := hide hmk1
          have hsz0 := (unhide HK0).keeps.size
          have ho : ∀ u ∈ mkL gm, u.oneCell' = true := by intro u hu; unfold mkL at hu; simp at hu; subst hu; rfl
          clear hmk1 hhd hfr hrow hkp hd HHEAD HFS hvrow HNR
          have hmk0 : 0 < (mkL gm).length := Nat.zero_lt_succ _
          have HA1 := hide (World.ownsRow.alloc (unhide HM0) (.cells #[.slice (some ⟨gm, 0, none⟩) 2 2] 28))
          go_wp2_with (at_builtin; refine wpList_append_marks _ rfl _ _ 38 rfl 28 i0 _ 24 (mkL gm) Tryz.underlying38 hi hz0 hz1 hz2 rfl hmk0 ho _ _ rfl (unhide HA1) ⟨wr.heap.size, 0, none⟩ 1 1 (by decide) rfl ?m1c1 ?m1c2 ?m1c3 ?_)
          case m1c1 => first | exact newsL wr (reps (mkL gm) 1) 28 | exact fun j u hj => hj
          case m1c2 => unfold maxLen; omega
          case m1c3 => omega
          intro v1 w1 hm1 hk1 hg1 hb1
          have HK1 := hide ((unhide HK0).mark (by decide) (by decide) (unhide HM0) (unhide HMV) (by first | (simp; done) | (simp; omega)) hm1 hk1 hg1 (by rw [alloc1_s]; exact hb1))
          obtain ⟨p1, cp1, rfl, _⟩ := ownsRow_slice hm1
          have HM1 := hide ((unhide HK1).marks (.slice p ents.length cp, ents.length) (by simp))
          have hsz1 := (unhide HK1).keeps.size
          clear hm1 hk1 hg1 hb1 HA1 HM0 HK0
          have HA2 := hide (World.ownsRow.alloc (unhide HM1) (.cells #[.slice (some ⟨gm, 0, none⟩) 2 2, .slice (some ⟨gm, 0, none⟩) 2 2] 28))
          go_wp2_with (at_builtin; refine wpList_append_marks _ rfl _ _ 38 rfl 28 i0 _ 24 (mkL gm) Tryz.underlying38 hi hz0 hz1 hz2 rfl hmk0 ho _ _ rfl (unhide HA2) ⟨w1.heap.size, 0, none⟩ 2 2 (by decide) rfl ?m2c1 ?m2c2 ?m2c3 ?_)
          case m2c1 => first | exact newsL w1 (reps (mkL gm) 2) 28 | exact fun j u hj => hj
          case m2c2 => unfold maxLen; omega
          case m2c3 => omega
          intro v2 w2 hm2 hk2 hg2 hb2
          have HK2 := hide ((unhide HK1).mark (by decide) (by decide) (unhide HM1) (unhide HMV) (by first | (simp; done) | (simp; omega)) hm2 hk2 hg2 (by rw [alloc1_s]; exact hb2))
          obtain ⟨p2, cp2, rfl, _⟩ := ownsRow_slice hm2
          have HM2 := hide ((unhide HK2).marks (.slice p ents.length cp, ents.length) (by simp))
          have hsz2 := (unhide HK2).keeps.size
          clear hm2 hk2 hg2 hb2 HA2 HM1 HK1
          have HA3 := hide (World.ownsRow.alloc (unhide HM2) (.cells #[.slice (some ⟨gm, 0, none⟩) 2 2, .slice (some ⟨gm, 0, none⟩) 2 2, .slice (some ⟨gm, 0, none⟩) 2 2] 28))
          go_wp2_with (at_builtin; refine wpList_append_marks _ rfl _ _ 38 rfl 28 i0 _ 24 (mkL gm) Tryz.underlying38 hi hz0 hz1 hz2 rfl hmk0 ho _ _ rfl (unhide HA3) ⟨w2.heap.size, 0, none⟩ 3 3 (by decide) rfl ?m3c1 ?m3c2 ?m3c3 ?_)
          case m3c1 => first | exact newsL w2 (reps (mkL gm) 3) 28 | exact fun j u hj => hj
          case m3c2 => unfold maxLen; omega
          case m3c3 => omega
          intro v3 w3 hm3 hk3 hg3 hb3
          have HK3 := hide ((unhide HK2).mark (by decide) (by decide) (unhide HM2) (unhide HMV) (by first | (simp; done) | (simp; omega)) hm3 hk3 hg3 (by rw [alloc1_s]; exact hb3))
          obtain ⟨p3, cp3, rfl, _⟩ := ownsRow_slice hm3
          have HM3 := hide ((unhide HK3).marks (.slice p ents.length cp, ents.length) (by simp))
          have hsz3 := (unhide HK3).keeps.size
          clear hm3 hk3 hg3 hb3 HA3 HM2 HK2
          have d0 := (unhide HK3).head.cell 4 _ rfl
          have HB0 := hide (World.ownsRow.alloc (unhide HK3).row (.cells #[.slice p ents.length cp] 38))
          go_wp2_with (at_builtin; refine wpList_append_own_at _ rfl _ _ 40 rfl 0 38 i1 _ 1 24 Tryz.underlying40 hi1 hy0 hy1 hy2 rfl (by decide) _ _ _ rfl (unhide HB0) ⟨w3.heap.size, 0, none⟩ 1 1 [.slice p ents.length cp] rfl rfl ?p0c1 ?p0c2 ?p0c3 ?p0c4 ?p0c5 ?_)
          case p0c2 => first | rfl | (intro u hu; simp at hu; subst hu; rfl)
          case p0c3 => unfold maxLen; first | omega | (simp; omega)
          case p0c4 => first | omega | (simp; omega)
          intro b0 y0 hown0 hg0 _ hb0
          have hd0 := (unhide HK3).pushHead (by decide) hg0
          have e0 := hd0.cell 4 _ rfl
          have f0 := hd0.fz
          have HP0 : Hid (KInv WA X wb (y0.setCell ⟨wb, 4, none⟩ b0) #[hs, ss, cbs, cfs, b0, cis] 28 38 b0 (b.el ++ [.slice p ents.length cp]) (mkL gm) _) := (unhide HK3).push hX (by decide) (by decide) (by decide) (by simpa using hown0) hg0 hb0 (by omega) 4
          obtain ⟨bp0, bc0, rfl, _⟩ := ownsRow_slice hown0
          have hyz0 : WA.heap.size ≤ y0.heap.size := by have := (unhide HP0).keeps.size; rwa [size_setCell] at this
          clear hown0 hg0 hb0 hd0 d0 HB0 HK3
          have d1 := (unhide HP0).head.cell 4 _ rfl
          have HB1 := hide (World.ownsRow.alloc (unhide HP0).row (.cells #[.slice p1 (ents.length + 1) cp1] 38))
          go_wp2_with (at_builtin; refine wpList_append_own_at _ rfl _ _ 40 rfl 0 38 i1 _ 1 24 Tryz.underlying40 hi1 hy0 hy1 hy2 rfl (by decide) _ _ _ rfl (unhide HB1) ⟨y0.heap.size, 0, none⟩ 1 1 [.slice p1 (ents.length + 1) cp1] rfl rfl ?p1c1 ?p1c2 ?p1c3 ?p1c4 ?p1c5 ?_)
          case p1c1 => have q := news1 (y0.setCell ⟨wb, 4, none⟩ (.slice bp0 (b.el.length + 1) bc0)) (.slice p1 (ents.length + 1) cp1) 38; rw [size_setCell] at q; exact q
          case p1c5 => exact Nat.zero_le _
          case p1c2 => first | rfl | (intro u hu; simp at hu; subst hu; rfl)
          case p1c3 => unfold maxLen; first | omega | (simp; omega)
          case p1c4 => first | omega | (simp; omega)
          intro b1 y1 hown1 hg1 _ hb1
          have hd1 := (unhide HP0).pushHead (by decide) hg1
          have e1 := hd1.cell 4 _ rfl
          have f1 := hd1.fz
          have HP1 : Hid (KInv WA X wb (y1.setCell ⟨wb, 4, none⟩ b1) #[hs, ss, cbs, cfs, b1, cis] 28 38 b1 (b.el ++ [.slice p ents.length cp] ++ [.slice p1 (ents.length + 1) cp1]) (mkL gm) _) := (unhide HP0).push hX (by decide) (by decide) (by decide) (by simpa using hown1) hg1 hb1 (by omega) 4
          obtain ⟨bp1, bc1, rfl, _⟩ := ownsRow_slice hown1
          have hyz1 : WA.heap.size ≤ y1.heap.size := by have := (unhide HP1).keeps.size; rwa [size_setCell] at this
          clear hown1 hg1 hb1 hd1 d1 HB1 HP0
          have d2 := (unhide HP1).head.cell 4 _ rfl
          have HB2 := hide (World.ownsRow.alloc (unhide HP1).row (.cells #[.slice p2 (ents.length + 2) cp2] 38))
          go_wp2_with (at_builtin; refine wpList_append_own_at _ rfl _ _ 40 rfl 0 38 i1 _ 1 24 Tryz.underlying40 hi1 hy0 hy1 hy2 rfl (by decide) _ _ _ rfl (unhide HB2) ⟨y1.heap.size, 0, none⟩ 1 1 [.slice p2 (ents.length + 2) cp2] rfl rfl ?p2c1 ?p2c2 ?p2c3 ?p2c4 ?p2c5 ?_)
          case p2c1 => have q := news1 (y1.setCell ⟨wb, 4, none⟩ (.slice bp1 (b.el.length + 2) bc1)) (.slice p2 (ents.length + 2) cp2) 38; rw [size_setCell] at q; exact q
          case p2c5 => exact Nat.zero_le _
          case p2c2 => first | rfl | (intro u hu; simp at hu; subst hu; rfl)
          case p2c3 => unfold maxLen; first | omega | (simp; omega)
          case p2c4 => first | omega | (simp; omega)
          intro b2 y2 hown2 hg2 _ hb2
          have hd2 := (unhide HP1).pushHead (by decide) hg2
          have e2 := hd2.cell 4 _ rfl
          have f2 := hd2.fz
          have HP2 : Hid (KInv WA X wb (y2.setCell ⟨wb, 4, none⟩ b2) #[hs, ss, cbs, cfs, b2, cis] 28 38 b2 (b.el ++ [.slice p ents.length cp] ++ [.slice p1 (ents.length + 1) cp1] ++ [.slice p2 (ents.length + 2) cp2]) (mkL gm) _) := (unhide HP1).push hX (by decide) (by decide) (by decide) (by simpa using hown2) hg2 hb2 (by omega) 4
          obtain ⟨bp2, bc2, rfl, _⟩ := ownsRow_slice hown2
          have hyz2 : WA.heap.size ≤ y2.heap.size := by have := (unhide HP2).keeps.size; rwa [size_setCell] at this
          clear hown2 hg2 hb2 hd2 d2 HB2 HP1
          have d3 := (unhide HP2).head.cell 4 _ rfl
          have HB3 := hide (World.ownsRow.alloc (unhide HP2).row (.cells #[.slice p3 (ents.length + 3) cp3] 38))
          go_wp2_with (at_builtin; refine wpList_append_own_at _ rfl _ _ 40 rfl 0 38 i1 _ 1 24 Tryz.underlying40 hi1 hy0 hy1 hy2 rfl (by decide) _ _ _ rfl (unhide HB3) ⟨y2.heap.size, 0, none⟩ 1 1 [.slice p3 (ents.length + 3) cp3] rfl rfl ?p3c1 ?p3c2 ?p3c3 ?p3c4 ?p3c5 ?_)
          case p3c1 => have q := news1 (y2.setCell ⟨wb, 4, none⟩ (.slice bp2 (b.el.length + 3) bc2)) (.slice p3 (ents.length + 3) cp3) 38; rw [size_setCell] at q; exact q
          case p3c5 => exact Nat.zero_le _
          case p3c2 => first | rfl | (intro u hu; simp at hu; subst hu; rfl)
          case p3c3 => unfold maxLen; first | omega | (simp; omega)
          case p3c4 => first | omega | (simp; omega)
          intro b3 y3 hown3 hg3 _ hb3
          have hd3 := (unhide HP2).pushHead (by decide) hg3
          have e3 := hd3.cell 4 _ rfl
          have f3 := hd3.fz
          have HP3 : Hid (KInv WA X wb (y3.setCell ⟨wb, 4, none⟩ b3) #[hs, ss, cbs, cfs, b3, cis] 28 38 b3 (b.el ++ [.slice p ents.length cp] ++ [.slice p1 (ents.length + 1) cp1] ++ [.slice p2 (ents.length + 2) cp2] ++ [.slice p3 (ents.length + 3) cp3]) (mkL gm) _) := (unhide HP2).push hX (by decide) (by decide) (by decide) (by simpa using hown3) hg3 hb3 (by omega) 4
          obtain ⟨bp3, bc3, rfl, _⟩ := ownsRow_slice hown3
          have hyz3 : WA.heap.size ≤ y3.heap.size := by have := (unhide HP3).keeps.size; rwa [size_setCell] at this
          clear hown3 hg3 hb3 hd3 d3 HB3 HP2
          go_wp2
          have q := unhide HP3
          simp only [List.append_assoc, List.cons_append, List.nil_append] at q
          go_end0
          rw [← unhide HBS, ← unhide HLS, ← unhide HIS] at q
          exact ⟨rfl, WA, c, gm, _, _, _, _, unhide HFM, unhide HTW, (unhide HGM).1, (unhide HGM).2, q⟩
end Go.Proofs.YtkalonhalhdlaaaGreatDoor

/-
  What one call of the book's keepsLists does to the book.
-/
namespace Go.Proofs.YtkalonhalhdlaaaGreatDoor
open Go.RowKit
theorem two_four {w : World} {g n : Nat} (h : TwoAt w g n) (h4 : n % 4 = 0) (j : Nat) (hj : j < 4) : TwoAt w g (n + j) := by
  unfold TwoAt at h ⊢
  have h1 : (n + j) / 4 % 256 = n / 4 % 256 := by omega
  have h2 : (n + j) / 1024 % 256 = n / 1024 % 256 := by omega
  rw [h1, h2]
  exact h
theorem keepsLists_bk {w : World} {wb : Nat} {hs ss v : Value} {b : Bk} {ents : List Value} (h : BkAt w wb hs ss b) (hv : Lls w v ents) (hvb : ∀ k, v.ownBlock = some k → ¬ b.blk k) (hlt : ∀ x ∈ ents, ∀ k, x.ownBlock = some k → ¬ b.blk k)
    (hN : b.eb.length + 4 * ents.length ≤ 4000000000000) (hF : b.el.length ≤ 1099511627776) (hT : ents.length ≤ 1099511627000) :
    Calls Tryz.prog 44 #[.pointer (some ⟨wb, 2, none⟩), v] w fun e w' => e = .returned (.tuple #[]) ∧ ∃ b' : Bk, BkAt w' wb hs ss b' ∧ b'.eb.length = b.eb.length + 4 * ents.length ∧ b'.el.length = b.el.length + 4 ∧ b'.ef = b.ef ∧ b'.ei = b.ei ∧
      Keeps (fun k => k = wb ∨ b.blk k ∨ lstBlk v ents k) w w' ∧ (∀ k, b'.blk k → b.blk k ∨ lstBlk v ents k ∨ w.heap.size ≤ k) := by
  refine (keepsLists_any (turnB wb b.ls v) (.inl rfl) (fun i hi => .inr (.inl hi.symm)) (fun i hi => .inr (.inr hi.symm)) h hv hvb hlt hN hF (by omega)).mono ?_
  rintro e w' ⟨rfl, wr, c, gm, ls', v1, v2, v3, M, hTw, hgm, hgc, K⟩
  have hvlt : ∀ k, v.ownBlock = some k → k < w.heap.size := fun k hk => (hv.row.lt k hk).2
  have hls : ∀ k, ls'.ownBlock = some k → b.ls.ownBlock = some k ∨ wr.heap.size ≤ k := by
    intro k hk
    rcases K.mineB k hk with (hx | hx | hx) | hx
    · exfalso
      obtain ⟨c, hc⟩ := ownsRow_isRow K.row hk
      have h3 := K.head
      unfold WAt at h3
      rw [← hx, hc] at h3
      simp at h3
    · exact .inl hx.symm
    · exfalso
      obtain ⟨c, hc⟩ := ownsRow_isRow K.row hk
      obtain ⟨c2, hc2⟩ := ownsRow_isRow (K.marks (v, ents.length) (by simp)) (k := k) hx.symm
      rw [hc] at hc2
      simp at hc2
    · exact .inr hx
  have hmk : ∀ u : Value × Nat, u ∈ [(v, ents.length), (v1, ents.length + 1), (v2, ents.length + 2), (v3, ents.length + 3)] → ∀ k, u.1.ownBlock = some k → b.ls.ownBlock = some k ∨ v.ownBlock = some k ∨ wr.heap.size ≤ k := by
    intro u hu k hk
    rcases K.mineU u hu k hk with (hx | hx | hx) | hx
    · exfalso
      obtain ⟨c, hc⟩ := ownsRow_isRow (K.marks u hu) hk
      have h3 := K.head
      unfold WAt at h3
      rw [← hx, hc] at h3
      simp at h3
    · exact .inl hx.symm
    · exact .inr (.inl hx.symm)
    · exact .inr (.inr hx)
  have hsz := M.keeps.size
  have hno : ∀ k, c.blk k → b.ls.ownBlock ≠ some k → ¬ turnB wb b.ls v k := by
    rintro k hk hne (rfl | hx | hx)
    · exact M.at_.notHead hk
    · exact hne hx.symm
    · exact M.notRow hv hvb hx.symm hk
  have hty : ∀ {k : Nat} {cc : Array Value} {ty : TypeId}, wr.heap[k]? = some (.cells cc ty (0, 0)) → ty ≠ 38 → b.ls.ownBlock ≠ some k := by
    intro k cc ty hc ht hk
    have hrf := M.at_.rl
    rw [M.ls] at hrf
    obtain ⟨c2, hc2⟩ := ownsRow_isRow hrf hk
    rw [hc] at hc2
    simp at hc2
    exact ht hc2.2
  have hrow : ∀ {k : Nat} {ty : TypeId} {sz m : Nat} {u : Value} {ys : List Value}, wr.ownsRow 0 ty sz u m ys → u.ownBlock = some k → ty ≠ 38 → b.ls.ownBlock ≠ some k := by
    intro k ty sz m u ys hr hk ht
    obtain ⟨cc, hc⟩ := ownsRow_isRow hr hk
    exact hty hc ht
  have hA2 := M.at_
  have hmg : ∀ i, i < b.el.length → (if i < b.el.length then b.mg i else gm) = b.mg i := fun i hi => if_pos hi
  have hgt : ¬ turnB wb b.ls v gm := by
    unfold TwoAt at hTw
    rintro (rfl | hx | hx)
    · have h3 := M.at_.head
      unfold WAt at h3
      rw [hTw] at h3
      simp at h3
    · exact hty hTw (by decide) hx.symm
    · obtain ⟨c2, hc2⟩ := ownsRow_isRow M.row hx.symm
      rw [hTw] at hc2
      simp at hc2
  have hTw' : TwoAt w' gm b.el.length := by
    unfold TwoAt at hTw ⊢
    rw [K.keeps.block _ (Array.getElem?_eq_some_iff.1 hTw).1 hgt]
    exact hTw
  have hap : ∀ u : Value × Nat, u ∈ [(v, ents.length), (v1, ents.length + 1), (v2, ents.length + 2), (v3, ents.length + 3)] → ∀ k, u.1.ownBlock = some k → c.bs.ownBlock ≠ some k := by
    intro u hu k hk hk2
    rcases hmk u hu k hk with h1 | h1 | h1
    · exact hrow hA2.rb hk2 (by decide) h1
    · exact M.notRow hv hvb h1 (.inl hk2)
    · have := hA2.lt (.inl hk2)
      omega
  refine ⟨rfl, ⟨c.bs, b.fs, ls', b.is, c.eb, b.ef, b.el ++ [v, v1, v2, v3], b.ei, fun i => if i < b.el.length then b.mg i else gm⟩, ⟨K.head, ?_, ?_, K.row, ?_, ?_, ?_, ?_, ?_, ?_, hA2.fb, h.ff, ?_, h.fi, ?_⟩, by show c.eb.length = _; rw [M.len], by simp, rfl, rfl, ?_, ?_⟩
  · exact ownsRow_keepsB hA2.rb K.keeps fun k e => hno k (.inl e) (hrow hA2.rb e (by decide))
  · have q := hA2.rf
    have q2 : ∀ k, c.fs.ownBlock = some k → ¬ turnB wb b.ls v k := fun k e => hno k (.inr (.inl e)) (hrow hA2.rf e (by decide))
    rw [M.fs] at q q2
    rw [M.ef] at q
    exact ownsRow_keepsB q K.keeps q2
  · have q := hA2.ri
    have q2 : ∀ k, c.is.ownBlock = some k → ¬ turnB wb b.ls v k := fun k e => hno k (.inr (.inr (.inr (.inl e)))) (hrow hA2.ri e (by decide))
    rw [M.is] at q q2
    rw [M.ei] at q
    exact ownsRow_keepsB q K.keeps q2
  · intro i u hi
    obtain ⟨m, hm, hm2⟩ := hA2.mb i u hi
    exact ⟨m, ownsRow_keepsB hm K.keeps fun k e => hno k (.inr (.inr (.inr (.inr (.inl ⟨u, mem_of_get hi, e⟩))))) (hrow hm e (by decide)), hm2⟩
  · intro i u hi
    have hi2 : c.ef[i]? = some u := by rw [M.ef]; exact hi
    obtain ⟨m, hm, hm2⟩ := hA2.mf i u hi2
    exact ⟨m, ownsRow_keepsB hm K.keeps fun k e => hno k (.inr (.inr (.inr (.inr (.inr (.inl ⟨u, mem_of_get hi2, e⟩)))))) (hrow hm e (by decide)), hm2⟩
  · intro i u hi
    rcases get_four hi with ⟨hlt, hi⟩ | ⟨j, hj, rfl, hi⟩
    · rw [← M.el] at hi
      obtain ⟨m, hm, hm2⟩ := hA2.ml i u hi
      rw [M.mg] at hm
      simp only [hlt, if_true]
      exact ⟨m, ownsRow_keepsB hm K.keeps fun k e => hno k (.inr (.inr (.inr (.inr (.inr (.inr (.inl ⟨u, mem_of_get hi, e⟩))))))) (hrow hm e (by decide)), hm2⟩
    · simp only [show ¬ b.el.length + j < b.el.length by omega, if_false]
      have hc : j = 0 ∨ j = 1 ∨ j = 2 ∨ j = 3 := by omega
      rcases hc with rfl | rfl | rfl | rfl <;> (simp at hi; subst hi)
      · exact ⟨ents.length, K.marks (v, ents.length) (by simp), by omega⟩
      · exact ⟨ents.length + 1, K.marks (v1, ents.length + 1) (by simp), by omega⟩
      · exact ⟨ents.length + 2, K.marks (v2, ents.length + 2) (by simp), by omega⟩
      · exact ⟨ents.length + 3, K.marks (v3, ents.length + 3) (by simp), by omega⟩
  · intro i u hi
    have hi2 : c.ei[i]? = some u := by rw [M.ei]; exact hi
    obtain ⟨m, hm, hm2⟩ := hA2.mi i u hi2
    exact ⟨m, ownsRow_keepsB hm K.keeps fun k e => hno k (.inr (.inr (.inr (.inr (.inr (.inr (.inr (.inl ⟨u, mem_of_get hi2, e⟩)))))))) (hrow hm e (by decide)), hm2⟩
  · intro i hi
    by_cases hlt2 : i < b.el.length
    · simp only [hlt2, if_true]
      have hi2 : i < c.el.length := by rw [M.el]; exact hlt2
      have ht := hA2.two i hi2
      have hq := hno _ (.inr (.inr (.inr (.inr (.inr (.inr (.inr (.inr ⟨i, hi2, rfl⟩)))))))) (hty ht (by decide))
      rw [M.mg] at ht hq
      unfold TwoAt at ht ⊢
      rw [K.keeps.block _ (Array.getElem?_eq_some_iff.1 ht).1 hq]
      exact ht
    · simp only [hlt2, if_false]
      simp only [List.length_append, List.length_cons, List.length_nil] at hi
      have q := two_four hTw' h.fl (i - b.el.length) (by omega)
      rw [show b.el.length + (i - b.el.length) = i by omega] at q
      exact q
  · have := h.fl
    simp
    omega
  · intro u hu k hk
    rcases mem_four hu with hu | rfl | rfl | rfl | rfl
    · exact hA2.apart u (by rw [M.el]; exact hu) k hk
    · exact hap (u, ents.length) (by simp) k hk
    · exact hap (u, ents.length + 1) (by simp) k hk
    · exact hap (u, ents.length + 2) (by simp) k hk
    · exact hap (u, ents.length + 3) (by simp) k hk
  · refine ⟨K.keeps.os.trans M.keeps.os, K.keeps.tape.trans M.keeps.tape, K.keeps.output.trans M.keeps.output, Nat.le_trans hsz K.keeps.size, fun k hk hx => ?_⟩
    rw [K.keeps.block k (by omega) ?_]
    · exact M.keeps.block k hk hx
    · rintro (rfl | hb | hb)
      · exact hx (.inl rfl)
      · exact hx (.inr (.inl (.inr (.inr (.inl hb.symm)))))
      · exact hx (.inr (.inr (.inl hb.symm)))
  · have hcb : ∀ k, c.blk k → b.blk k ∨ lstBlk v ents k ∨ w.heap.size ≤ k := by
      intro k hk
      rcases M.blk k hk with h1 | ⟨x, hx, e⟩ | h1
      · exact .inl h1
      · exact .inr (.inl (.inr ⟨x, List.mem_of_mem_take hx, e⟩))
      · exact .inr (.inr h1)
    have hmk2 : ∀ u : Value × Nat, u ∈ [(v, ents.length), (v1, ents.length + 1), (v2, ents.length + 2), (v3, ents.length + 3)] → ∀ k, u.1.ownBlock = some k → b.blk k ∨ lstBlk v ents k ∨ w.heap.size ≤ k := by
      intro u hu k hk
      rcases hmk u hu k hk with h1 | h1 | h1
      · exact .inl (.inr (.inr (.inl h1)))
      · exact .inr (.inl (.inl h1))
      · exact .inr (.inr (Nat.le_trans hsz h1))
    intro k hk
    rcases hk with hk | hk | hk | hk | ⟨u, hu, hk⟩ | hk | ⟨u, hu, hk⟩ | hk | ⟨i, hi, hk⟩
    · exact hcb k (.inl hk)
    · exact .inl (.inr (.inl hk))
    · rcases hls k hk with hx | hx
      · exact .inl (.inr (.inr (.inl hx)))
      · exact .inr (.inr (Nat.le_trans hsz hx))
    · exact .inl (.inr (.inr (.inr (.inl hk))))
    · exact hcb k (.inr (.inr (.inr (.inr (.inl ⟨u, hu, hk⟩)))))
    · exact .inl (.inr (.inr (.inr (.inr (.inr (.inl hk))))))
    · rcases mem_four hu with hu | rfl | rfl | rfl | rfl
      · exact .inl (.inr (.inr (.inr (.inr (.inr (.inr (.inl ⟨u, hu, hk⟩)))))))
      · exact hmk2 (u, ents.length) (by simp) k hk
      · exact hmk2 (u, ents.length + 1) (by simp) k hk
      · exact hmk2 (u, ents.length + 2) (by simp) k hk
      · exact hmk2 (u, ents.length + 3) (by simp) k hk
    · exact .inl (.inr (.inr (.inr (.inr (.inr (.inr (.inr (.inl hk))))))))
    · by_cases hlt2 : i < b.el.length
      · simp only [hlt2, if_true] at hk
        exact .inl (.inr (.inr (.inr (.inr (.inr (.inr (.inr (.inr ⟨i, hlt2, hk⟩))))))))
      · simp only [hlt2, if_false] at hk
        exact .inr (.inr (by omega))
end Go.Proofs.YtkalonhalhdlaaaGreatDoor

/-
  What one call of the reference hunter's Feed does, given a text of noughts and ones: as in the document's words (LMath: feedI).
-/
namespace Go.Proofs.YtkalonhalhdlaaaGreatDoor
open Go.RowKit
/-- The reference's hunter in memory. -/
def RHead (w : World) (rb : Nat) (on : Bool) (cnt : Nat) (v : Value) : Prop := w.heap[rb]? = some (.cells #[.bool on, .int .i64 (cnt : Int), v] 72 (0, 0))
section
variable {w wr : World} {rb : Nat} {on : Bool} {cnt : Nat} {v : Value}
theorem RHead.lt (h : RHead w rb on cnt v) : rb < w.heap.size := (Array.getElem?_eq_some_iff.1 h).1
theorem RHead.keeps {X : Nat → Prop} {w' : World} (h : RHead w rb on cnt v) (k : Keeps X w w') (hx : ¬ X rb) : RHead w' rb on cnt v := by
  unfold RHead
  rw [k.block rb h.lt hx]; exact h
end
end Go.Proofs.YtkalonhalhdlaaaGreatDoor

/-
  What one call of the reference hunter's Feed does, given a text of noughts and ones: as in the document's words (LMath: feedI).
-/
namespace Go.Proofs.YtkalonhalhdlaaaGreatDoor
open Go.RowKit
/-- What holds of a hunter in the document's words. -/
def IOk (s : IH) : Prop := s.c ≤ 7 ∧ (s.on = false → s.has = []) ∧ (s.c = 7 → s.on = false)
end Go.Proofs.YtkalonhalhdlaaaGreatDoor

/-
  The law's World where a line is played: hunters by twos, and the book.
-/
namespace Go.Proofs.YtkalonhalhdlaaaGreatDoor
open Go.RowKit
/-- A hunter of the program and the document's, in memory and in plain words. -/
structure Ear where
  hb : Nat
  h : HS
  rb : Nat
  s : IH
  cnt : Nat
  v : Value
def Ear.blk (e : Ear) (k : Nat) : Prop := k = e.hb ∨ k = e.rb ∨ e.v.ownBlock = some k
structure EarAt (w : World) (e : Ear) : Prop where
  hunter : HunterAt w e.hb e.h
  ok : e.h.ok
  head : RHead w e.rb e.s.on e.cnt e.v
  row : w.ownsRow 0 4 1 e.v e.s.has.length (e.s.has.map Value.bool)
  c : e.s.c = min e.cnt 7
  iok : IOk e.s
  sim : Sim e.h e.s
def earTy (t : TypeId) : Prop := t = 106 ∨ t = 72 ∨ t = 4
section
variable {w : World} {e : Ear}
theorem EarAt.ty (h : EarAt w e) {k : Nat} (hk : e.blk k) : ∃ c t, w.heap[k]? = some (.cells c t (0, 0)) ∧ earTy t := by
  rcases hk with rfl | rfl | hk
  · exact ⟨_, _, h.hunter, .inl rfl⟩
  · exact ⟨_, _, h.head, .inr (.inl rfl)⟩
  · obtain ⟨c, hc⟩ := ownsRow_isRow h.row hk
    exact ⟨c, _, hc, .inr (.inr rfl)⟩
theorem EarAt.lt (h : EarAt w e) {k : Nat} (hk : e.blk k) : k < w.heap.size := by
  obtain ⟨c, t, hc, _⟩ := h.ty hk
  exact (Array.getElem?_eq_some_iff.1 hc).1
/-- A block with other cells is none of an ear's. -/
theorem EarAt.not (h : EarAt w e) {k : Nat} {c : Array Value} {t : TypeId} {fz : Nat × Nat} (hk : w.heap[k]? = some (.cells c t fz)) (ht : ¬ earTy t) : ¬ e.blk k := by
  intro hb
  obtain ⟨c2, t2, hc, h2⟩ := h.ty hb
  rw [hk] at hc
  simp only [Option.some.injEq, Obj.cells.injEq] at hc
  exact ht (hc.2.1 ▸ h2)
theorem EarAt.turned {X : Nat → Prop} {w' : World} (h : EarAt w e) (hk : Keeps X w w') (hx : ∀ k, e.blk k → ¬ X k) : EarAt w' e :=
  ⟨h.hunter.keeps hk (hx _ (.inl rfl)), h.ok, h.head.keeps hk (hx _ (.inr (.inl rfl))), ownsRow_keepsB h.row hk (fun k hk => hx k (.inr (.inr hk))), h.c, h.iok, h.sim⟩
end
theorem earTy_bk {t : TypeId} (h : earTy t) : ¬ bkTy t := by
  unfold earTy at h
  unfold bkTy
  rcases h with rfl | rfl | rfl <;> decide
def earCells : List Ear → List Value
  | [] => []
  | e :: r => .pointer (some ⟨e.hb, 0, none⟩) :: .pointer (some ⟨e.rb, 0, none⟩) :: earCells r
/-- The law's World: hunters and the book. -/
structure Lw where
  hs : Value
  es : List Ear
  b : Bk
structure LwAt (B : Nat) (w : World) (wb : Nat) (ss : Value) (x : Lw) : Prop where
  bk : BkAt w wb x.hs ss x.b
  row : w.ownsRow 0 51 2 x.hs x.es.length (earCells x.es)
  ears : ∀ e ∈ x.es, EarAt w e
  apart : x.es.Pairwise fun e f => ∀ k, e.blk k → ¬ f.blk k
  lo : B ≤ wb
  loH : ∀ k, x.hs.ownBlock = some k → B ≤ k
  loB : ∀ k, x.b.blk k → B ≤ k
  loE : ∀ e ∈ x.es, ∀ k, e.blk k → B ≤ k
/-- How much there is at most. -/
structure Lw.small (x : Lw) (M : Nat) : Prop where
  es : x.es.length ≤ M
  eb : x.b.eb.length ≤ 4 * M
  ef : x.b.ef.length ≤ 4 * M
  el : x.b.el.length ≤ 4 * M
  ei : x.b.ei.length ≤ 4 * M
  ears : ∀ e ∈ x.es, e.cnt ≤ M ∧ e.s.has.length ≤ M
theorem Lw.small.mono {x : Lw} {M N : Nat} (h : x.small M) (hle : M ≤ N) : x.small N :=
  ⟨Nat.le_trans h.es hle, by have := h.eb; omega, by have := h.ef; omega, by have := h.el; omega, by have := h.ei; omega, fun e he => by have := h.ears e he; omega⟩
/-- The blocks that a step on a hunter may turn. -/
def lwBlk (wb : Nat) (x : Lw) (k : Nat) : Prop := k = wb ∨ x.b.blk k ∨ ∃ e ∈ x.es, e.blk k
theorem looks_lw {B : Nat} {w : World} {wb : Nat} {ss : Value} {x : Lw} {M : Nat} (h : LwAt B w wb ss x) (hs : x.small M) (hM : M ≤ 200000000000) :
    Calls Tryz.prog 13 #[.pointer (some ⟨wb, 2, none⟩)] w fun e w' => e = .returned (.bool true) ∧ w' = w :=
  looks_bk wb x.hs ss x.b w h.bk (by have := hs.eb; omega) (by have := hs.ef; omega) (by have := hs.el; omega) (by have := hs.ei; omega)
end Go.Proofs.YtkalonhalhdlaaaGreatDoor

/-
  What one call of Connect, Disconnect, Close, Out, Events does.
-/
namespace Go.Proofs.YtkalonhalhdlaaaGreatDoor
open Go.RowKit
section
variable {w W : World} {own : Nat → Nat} {i b : Nat} {c : Cfg} {s : St} {cl : Bool} {ch : Nat} {q cm o ev : Value} {qe ce oe : List Value}
set_option maxHeartbeats 4000000 in
set_option maxRecDepth 100000 in
theorem connect_any (h : SAt w own i b c s cl ch q cm o ev qe ce oe) (hl : s.out.length + 18 ≤ 2199023255552) :
    Calls Tryz.prog 51 #[.pointer (some ⟨b, 0, none⟩)] w fun e w' => Ans (if cl then 8 else (connectS c s).1) i b c (if cl then s else (connectS c s).2) cl own w e w' := by
  have hlt := h.lt
  have k1 := isClosed_any h
  cases cl with
  | true =>
    have H := hide h
    clear h
    go_enter Tryz.func51, Tryz.ntmps51
    go_wp2_with fail
    refine k1.mono ?_
    rintro e w1 ⟨rfl, hw1⟩
    subst hw1
    clear k1
    go_wp2
    go_ret
    exact (unhide H).ans 8 (Below.refl _ _)
  | false =>
    have c7 := h.c_state
    have hs4 := h.sok.state
    have K2 := hide (call_any h (by omega))
    have H := hide h
    clear h
    have hst : s.state = 0 ∨ s.state = 1 ∨ s.state = 2 ∨ s.state = 3 ∨ s.state = 4 := by omega
    rcases hst with e | e | e | e | e
    · have HD : Hid (connectS c s = (0, callS c s)) := hide (by unfold connectS; simp [e])
      rw [e] at c7
      clear e
      go_enter Tryz.func51, Tryz.ntmps51
      go_wp2_with fail
      refine k1.mono ?_
      rintro e w1 ⟨rfl, hw1⟩
      subst hw1
      clear k1
      go_wp2_with fail
      refine (unhide K2).mono ?_
      rintro e w2 ⟨rfl, own2, h3, u3⟩
      have HR := hide (And.intro h3 u3)
      clear h3 u3 K2
      go_wp2
      go_ret
      dsimp only
      rw [unhide HD]
      exact ⟨rfl, _, (unhide HR).1, (unhide HR).2⟩
    · have HD : Hid (connectS c s = (6, s)) := hide (by unfold connectS; simp [e])
      rw [e] at c7
      clear e K2
      go_enter Tryz.func51, Tryz.ntmps51
      go_wp2_with fail
      refine k1.mono ?_
      rintro e w1 ⟨rfl, hw1⟩
      subst hw1
      clear k1
      go_wp2
      go_ret
      dsimp only
      rw [unhide HD]
      exact (unhide H).ans 6 (Below.refl _ _)
    · have HD : Hid (connectS c s = (6, s)) := hide (by unfold connectS; simp [e])
      rw [e] at c7
      clear e K2
      go_enter Tryz.func51, Tryz.ntmps51
      go_wp2_with fail
      refine k1.mono ?_
      rintro e w1 ⟨rfl, hw1⟩
      subst hw1
      clear k1
      go_wp2
      go_ret
      dsimp only
      rw [unhide HD]
      exact (unhide H).ans 6 (Below.refl _ _)
    · have HD : Hid (connectS c s = (6, s)) := hide (by unfold connectS; simp [e])
      rw [e] at c7
      clear e K2
      go_enter Tryz.func51, Tryz.ntmps51
      go_wp2_with fail
      refine k1.mono ?_
      rintro e w1 ⟨rfl, hw1⟩
      subst hw1
      clear k1
      go_wp2
      go_ret
      dsimp only
      rw [unhide HD]
      exact (unhide H).ans 6 (Below.refl _ _)
    · have HD : Hid (connectS c s = (0, callS c s)) := hide (by unfold connectS; simp [e])
      rw [e] at c7
      clear e
      go_enter Tryz.func51, Tryz.ntmps51
      go_wp2_with fail
      refine k1.mono ?_
      rintro e w1 ⟨rfl, hw1⟩
      subst hw1
      clear k1
      go_wp2_with fail
      refine (unhide K2).mono ?_
      rintro e w2 ⟨rfl, own2, h3, u3⟩
      have HR := hide (And.intro h3 u3)
      clear h3 u3 K2
      go_wp2
      go_ret
      dsimp only
      rw [unhide HD]
      exact ⟨rfl, _, (unhide HR).1, (unhide HR).2⟩
set_option maxHeartbeats 4000000 in
set_option maxRecDepth 100000 in
theorem leave_any (h : SAt w own i b c s cl ch q cm o ev qe ce oe) (hl : s.out.length + 18 ≤ 2199023255552) :
    Calls Tryz.prog 53 #[.pointer (some ⟨b, 0, none⟩)] w fun e w' => Ans (if cl then 8 else (leaveS c s).1) i b c (if cl then s else (leaveS c s).2) cl own w e w' := by
  have hlt := h.lt
  have k1 := isClosed_any h
  cases cl with
  | true =>
    have H := hide h
    clear h
    go_enter Tryz.func53, Tryz.ntmps53
    go_wp2_with fail
    refine k1.mono ?_
    rintro e w1 ⟨rfl, hw1⟩
    subst hw1
    clear k1
    go_wp2
    go_ret
    exact (unhide H).ans 8 (Below.refl _ _)
  | false =>
    have c7 := h.c_state
    have hs4 := h.sok.state
    have K2 := hide (ask_any h 3 6 (.inr rfl) (by omega))
    have H := hide h
    clear h
    have hst : s.state = 0 ∨ s.state = 1 ∨ s.state = 2 ∨ s.state = 3 ∨ s.state = 4 := by omega
    rcases hst with e | e | e | e | e
    · have HD : Hid (leaveS c s = (6, s)) := hide (by unfold leaveS; simp [e])
      rw [e] at c7
      clear e K2
      go_enter Tryz.func53, Tryz.ntmps53
      go_wp2_with fail
      refine k1.mono ?_
      rintro e w1 ⟨rfl, hw1⟩
      subst hw1
      clear k1
      go_wp2
      go_ret
      dsimp only
      rw [unhide HD]
      exact (unhide H).ans 6 (Below.refl _ _)
    · have HD : Hid (leaveS c s = (0, ask c 3 6 s)) := hide (by unfold leaveS; simp [e])
      rw [e] at c7
      clear e
      go_enter Tryz.func53, Tryz.ntmps53
      go_wp2_with fail
      refine k1.mono ?_
      rintro e w1 ⟨rfl, hw1⟩
      subst hw1
      clear k1
      go_wp2_with fail
      refine (unhide K2).mono ?_
      rintro e w2 ⟨rfl, own2, h3, u3⟩
      have HR := hide (And.intro h3 u3)
      clear h3 u3 K2
      go_wp2
      go_ret
      dsimp only
      rw [unhide HD]
      exact ⟨rfl, _, (unhide HR).1, (unhide HR).2⟩
    · have HD : Hid (leaveS c s = (0, ask c 3 6 s)) := hide (by unfold leaveS; simp [e])
      rw [e] at c7
      clear e
      go_enter Tryz.func53, Tryz.ntmps53
      go_wp2_with fail
      refine k1.mono ?_
      rintro e w1 ⟨rfl, hw1⟩
      subst hw1
      clear k1
      go_wp2_with fail
      refine (unhide K2).mono ?_
      rintro e w2 ⟨rfl, own2, h3, u3⟩
      have HR := hide (And.intro h3 u3)
      clear h3 u3 K2
      go_wp2
      go_ret
      dsimp only
      rw [unhide HD]
      exact ⟨rfl, _, (unhide HR).1, (unhide HR).2⟩
    · have HD : Hid (leaveS c s = (6, s)) := hide (by unfold leaveS; simp [e])
      rw [e] at c7
      clear e K2
      go_enter Tryz.func53, Tryz.ntmps53
      go_wp2_with fail
      refine k1.mono ?_
      rintro e w1 ⟨rfl, hw1⟩
      subst hw1
      clear k1
      go_wp2
      go_ret
      dsimp only
      rw [unhide HD]
      exact (unhide H).ans 6 (Below.refl _ _)
    · have HD : Hid (leaveS c s = (0, ask c 3 6 s)) := hide (by unfold leaveS; simp [e])
      rw [e] at c7
      clear e
      go_enter Tryz.func53, Tryz.ntmps53
      go_wp2_with fail
      refine k1.mono ?_
      rintro e w1 ⟨rfl, hw1⟩
      subst hw1
      clear k1
      go_wp2_with fail
      refine (unhide K2).mono ?_
      rintro e w2 ⟨rfl, own2, h3, u3⟩
      have HR := hide (And.intro h3 u3)
      clear h3 u3 K2
      go_wp2
      go_ret
      dsimp only
      rw [unhide HD]
      exact ⟨rfl, _, (unhide HR).1, (unhide HR).2⟩
theorem SAt.shut (h : SAt w own i b c s false ch q cm o ev qe ce oe) : SAt { w with heap := w.heap.setIfInBounds ch (.chan 0 #[] true 0 0 false) } own i b c s true ch q cm o ev qe ce oe ∧ Upd i own own w { w with heap := w.heap.setIfInBounds ch (.chan 0 #[] true 0 0 false) } := by
  have hlc := (Array.getElem?_eq_some_iff.1 h.chan).1
  have hK : Keeps (· = ch) w { w with heap := w.heap.setIfInBounds ch (.chan 0 #[] true 0 0 false) } :=
    ⟨rfl, rfl, rfl, by simp, fun k _ hk => by simp only; rw [Array.getElem?_setIfInBounds_ne (fun e => hk e.symm)]⟩
  have hcb : b ≠ ch := fun e => by have := h.head; rw [e, h.chan] at this; simp at this
  have hne : ∀ p, p ≠ 0 → p < 5 → ∀ k, k = ch → own k ≠ tg i p := fun p hp hp5 k hk => by rw [hk, h.ownc]; exact tg_ne (by omega) hp5 (.inr (fun e => hp e.symm))
  refine ⟨⟨by rw [hK.block b h.lt hcb]; exact h.head, h.ownb, by simp [hlc], h.ownc, h.lq.keeps hK (hne 1 (by omega) (by omega)) (fun _ _ => rfl), h.lcm.keeps hK (hne 2 (by omega) (by omega)) (fun _ _ => rfl), h.lo.keeps hK (hne 3 (by omega) (by omega)) (fun _ _ => rfl), ownsRow_keepsB h.lev hK (fun k hb hX => hne 4 (by omega) (by omega) k hX (h.owne k hb)), h.owne, h.ctl.keeps hK h.pos (fun e => ?_), h.own0, fun k hs => h.new0 k (Nat.le_trans hK.size hs), h.cok, h.sok⟩, ⟨hK.mono (fun k hk => ⟨0, by omega, by rw [hk]; exact h.ownc⟩), fun _ _ => rfl⟩⟩
  have := h.ownc
  rw [← e, h.own0] at this
  exact tg_pos _ _ this.symm
set_option maxHeartbeats 4000000 in
set_option maxRecDepth 100000 in
theorem out_any (h : SAt w own i b c s cl ch q cm o ev qe ce oe) :
    Calls Tryz.prog 40 #[.pointer (some ⟨b, 0, none⟩)] w fun e w' => if cl then e = .returned (.tuple #[.slice none 0 0, .int .i64 (8 : Nat)]) ∧ w' = w else e = .returned (.tuple #[o, .int .i64 (0 : Nat)]) ∧ SAt w' own i b c { s with out := [] } cl ch q cm (.slice none 0 0) ev qe ce [] ∧ Lst w' own (tg i 3) o oe s.out ∧ Keeps (· = b) w w' := by
  have hlt := h.lt
  have k1 := isClosed_any h
  cases cl with
  | true =>
    have H := hide h
    clear h
    go_enter Tryz.func40, Tryz.ntmps40
    go_wp2_with fail
    refine k1.mono ?_
    rintro e w1 ⟨rfl, hw1⟩
    subst hw1
    clear k1
    go_wp2
    go_ret2
    exact ⟨rfl, rfl⟩
  | false =>
    have c20 := h.c_o
    have fz := h.fz
    obtain ⟨op, ocap, rfl, _, _⟩ := h.lo.slice
    have H := hide h
    clear h
    go_enter Tryz.func40, Tryz.ntmps40
    go_wp2_with fail
    refine k1.mono ?_
    rintro e w1 ⟨rfl, hw1⟩
    subst hw1
    clear k1
    go_wp2
    go_ret2
    have h := unhide H
    have hK : Keeps (· = b) w1 _ := (Keeps.refl _ w1).setB 20 (.slice none 0 0)
    exact ⟨rfl, h.wroteL hK ((h.hd.lo _).as { s with out := [] } rfl) Stays.same Stays.same Stays.gone (.inl ⟨rfl, rfl⟩) (h.sok.out []), h.lo.keeps hK (fun k hk => by rw [hk, h.ownb]; exact tg_ne (by omega) (by omega) (.inr (by omega))) (fun _ _ => rfl), hK⟩
set_option maxHeartbeats 4000000 in
set_option maxRecDepth 100000 in
theorem events_any (h : SAt w own i b c s cl ch q cm o ev qe ce oe) :
    Calls Tryz.prog 48 #[.pointer (some ⟨b, 0, none⟩)] w fun e w' => if cl then e = .returned (.tuple #[.slice none 0 0, .int .i64 (8 : Nat)]) ∧ w' = w else e = .returned (.tuple #[ev, .int .i64 (0 : Nat)]) ∧ SAt w' own i b c { s with events := [] } cl ch q cm o (.slice none 0 0) qe ce oe ∧ w'.ownsRow 0 3 1 ev s.events.length (s.events.map fun n => .int .i64 (n : Nat)) ∧ Keeps (· = b) w w' := by
  have hlt := h.lt
  have k1 := isClosed_any h
  cases cl with
  | true =>
    have H := hide h
    clear h
    go_enter Tryz.func48, Tryz.ntmps48
    go_wp2_with fail
    refine k1.mono ?_
    rintro e w1 ⟨rfl, hw1⟩
    subst hw1
    clear k1
    go_wp2
    go_ret2
    exact ⟨rfl, rfl⟩
  | false =>
    have c21 := h.c_ev
    have fz := h.fz
    obtain ⟨op, ocap, hoe⟩ := row_slice h.lev
    subst hoe
    have H := hide h
    clear h
    go_enter Tryz.func48, Tryz.ntmps48
    go_wp2_with fail
    refine k1.mono ?_
    rintro e w1 ⟨rfl, hw1⟩
    subst hw1
    clear k1
    go_wp2
    go_ret2
    have h := unhide H
    have hK : Keeps (· = b) w1 _ := (Keeps.refl _ w1).setB 21 (.slice none 0 0)
    exact ⟨rfl, h.wroteL hK ((h.hd.lev _).as { s with events := [] } rfl) Stays.same Stays.same Stays.same (.inr ⟨rfl, rfl⟩) (h.sok.events []), ownsRow_keepsB h.lev hK (fun k hk e => by have := h.owne k hk; rw [e, h.ownb] at this; exact tg_ne (by omega) (by omega) (.inr (by omega)) this), hK⟩
set_option maxHeartbeats 4000000 in
set_option maxRecDepth 100000 in
theorem close_any (h : SAt w own i b c s cl ch q cm o ev qe ce oe) :
    Calls Tryz.prog 59 #[.pointer (some ⟨b, 0, none⟩)] w fun e w' => if cl then e = .returned (.int .i64 (8 : Nat)) ∧ w' = w else e = .returned (.int .i64 (0 : Nat)) ∧ SAt w' own i b c s true ch q cm o ev qe ce oe ∧ Upd i own own w w' := by
  have hlt := h.lt
  have k1 := isClosed_any h
  cases cl with
  | true =>
    have H := hide h
    clear h
    go_enter Tryz.func59, Tryz.ntmps59
    go_wp2_with fail
    refine k1.mono ?_
    rintro e w1 ⟨rfl, hw1⟩
    subst hw1
    clear k1
    go_wp2
    go_ret
    exact ⟨rfl, rfl⟩
  | false =>
    have c6 := h.c_ch
    have hcl := fun ats ty => run_close_open (P := Tryz.prog) (w := w) ats ty h.chan
    have H := hide h
    clear h
    go_enter Tryz.func59, Tryz.ntmps59
    go_wp2_with fail
    refine k1.mono ?_
    rintro e w1 ⟨rfl, hw1⟩
    subst hw1
    clear k1
    go_wp2
    go_ret
    have h := unhide H
    exact ⟨rfl, h.shut⟩
end
end Go.Proofs.YtkalonhalhdlaaaGreatDoor

/-
  The document's station in memory: its block and its lists (its queue's head is cut off as it is acknowledged).
-/
namespace Go.Proofs.YtkalonhalhdlaaaGreatDoor
open Go.RowKit
/-- A list of lists of bytes whose first ones were cut off; all of owner t. -/
def QRow (w : World) (own : Nat → Nat) (t : Nat) (v : Value) (l : List Msg) : Prop :=
  ∃ p cap, v = .slice p l.length cap ∧ l.length ≤ cap ∧ cap ≤ maxLen ∧ ((p = none ∧ cap = 0) ∨ ∃ g off cur, p = some ⟨g, off, none⟩ ∧ own g = t ∧ w.heap[g]? = some (.cells cur 28 (0, 0)) ∧ off + cap ≤ cur.size ∧ ∀ (j : Nat) (m : Msg), l[j]? = some m → ∃ x, cur[off + j]? = some x ∧ BytesAt w own t x m)
section
variable {w w' : World} {own own' : Nat → Nat} {t : Nat} {v : Value} {l : List Msg} {X : Nat → Prop}
theorem QRow.nil (w : World) (own : Nat → Nat) (t : Nat) : QRow w own t (.slice none 0 0) [] := ⟨none, 0, rfl, Nat.le_refl _, Nat.zero_le _, .inl ⟨rfl, rfl⟩⟩
theorem QRow.keeps (h : QRow w own t v l) (hk : Keeps X w w') (hx : ∀ k, X k → own k ≠ t) (ho : ∀ k, k < w.heap.size → own' k = own k) : QRow w' own' t v l := by
  obtain ⟨p, cap, rfl, h1, h2, h3⟩ := h
  refine ⟨p, cap, rfl, h1, h2, ?_⟩
  rcases h3 with h3 | ⟨g, off, cur, rfl, hg, hc, hs, he⟩
  · exact .inl h3
  · have hlt := (Array.getElem?_eq_some_iff.1 hc).1
    refine .inr ⟨g, off, cur, rfl, (ho g hlt).trans hg, ?_, hs, fun j m hj => ?_⟩
    · rw [hk.block g hlt (fun hX => hx g hX hg)]; exact hc
    · obtain ⟨x, hx1, hx2⟩ := he j m hj
      exact ⟨x, hx1, hx2.keeps hk hx ho⟩
end
/-- Its cells. -/
def ttCells (c : Cfg) (s : St) (cl : Bool) (q cm o ev : Value) : Array Value :=
  #[.int .i64 c.m, .int .i64 c.win, .int .i64 c.tim, .int .i64 c.tri, .int .i64 c.room, .int .i64 c.addr, .int .i64 s.state,
    .int .i64 s.vs, .int .i64 s.va, .int .i64 s.vr, .int .i64 s.vm, q, .int .i64 s.timer, .int .i64 s.tries, .bool s.polling, .bool s.peer, .bool s.busy,
    .bool s.rejected, cm, o, ev, .bool cl]
/-- It in memory. -/
structure TAt (w : World) (own : Nat → Nat) (i b : Nat) (c : Cfg) (s : St) (cl : Bool) (q cm o ev : Value) (ce oe : List Value) : Prop where
  head : w.heap[b]? = some (.cells (ttCells c s cl q cm o ev) 137 (0, 0))
  ownb : own b = tg i 0
  lq : QRow w own (tg i 1) q s.queue
  lcm : Lst w own (tg i 2) cm ce s.came
  lo : Lst w own (tg i 3) o oe s.out
  lev : w.ownsRow 0 3 1 ev s.events.length (s.events.map fun n => .int .i64 (n : Nat))
  owne : ∀ k, ev.ownBlock = some k → own k = tg i 4
  own0 : own 0 = 0
  new0 : ∀ k, w.heap.size ≤ k → own k = 0
  cok : c.ok
  sok : s.fit c
def Ttn (w : World) (own : Nat → Nat) (i b : Nat) (c : Cfg) (s : St) (cl : Bool) : Prop := ∃ q cm o ev ce oe, TAt w own i b c s cl q cm o ev ce oe
section
variable {w w' : World} {own own' : Nat → Nat} {i b : Nat} {c : Cfg} {s : St} {cl : Bool} {q cm o ev : Value} {ce oe : List Value}
theorem TAt.lt (h : TAt w own i b c s cl q cm o ev ce oe) : b < w.heap.size := (Array.getElem?_eq_some_iff.1 h.head).1
theorem TAt.pos (h : TAt w own i b c s cl q cm o ev ce oe) : 0 < w.heap.size := Nat.lt_of_le_of_lt (Nat.zero_le _) h.lt
theorem TAt.cell (h : TAt w own i b c s cl q cm o ev ce oe) (j : Nat) {v : Value} (hj : (ttCells c s cl q cm o ev)[j]? = some v) : w.cell? ⟨b, j, none⟩ = some v := by
  rw [Lib.cell_of_heap h.head]; exact hj
theorem TAt.fz (h : TAt w own i b c s cl q cm o ev ce oe) (j : Nat) : w.frozen? ⟨b, j, none⟩ = false := Lib.frozen_of_heap h.head j
/-- Its block is written; its numbers are others. -/
theorem TAt.wrote (h : TAt w own i b c s cl q cm o ev ce oe) {s' : St} {cl' : Bool} {w' : World} (hk : Keeps (· = b) w w') (hh : w'.heap[b]? = some (.cells (ttCells c s' cl' q cm o ev) 137 (0, 0)))
    (e1 : s'.queue = s.queue) (e2 : s'.came = s.came) (e3 : s'.out = s.out) (e4 : s'.events = s.events) (hok : s'.fit c) : TAt w' own i b c s' cl' q cm o ev ce oe := by
  have hne : ∀ p, p ≠ 0 → p < 5 → ∀ k, k = b → own k ≠ tg i p := fun p hp hp5 k hk => by rw [hk, h.ownb]; exact tg_ne (by omega) hp5 (.inr (fun e => hp e.symm))
  refine ⟨hh, h.ownb, ?_, ?_, ?_, ?_, h.owne, h.own0, fun k hs => h.new0 k (Nat.le_trans hk.size hs), h.cok, hok⟩
  · rw [e1]; exact h.lq.keeps hk (hne 1 (by omega) (by omega)) (fun _ _ => rfl)
  · rw [e2]; exact h.lcm.keeps hk (hne 2 (by omega) (by omega)) (fun _ _ => rfl)
  · rw [e3]; exact h.lo.keeps hk (hne 3 (by omega) (by omega)) (fun _ _ => rfl)
  · rw [e4]; exact ownsRow_keepsB h.lev hk (fun k hb hX => hne 4 (by omega) (by omega) k hX (h.owne k hb))
theorem TAt.upd (h : TAt w own i b c s cl q cm o ev ce oe) {w' : World} (hk : Keeps (· = b) w w') : Upd i own own w w' :=
  ⟨hk.mono (fun k hk => ⟨0, by omega, by rw [hk]; exact h.ownb⟩), fun _ _ => rfl⟩
/-- Others have worked: nothing of its own has turned. -/
theorem TAt.others (h : TAt w own i b c s cl q cm o ev ce oe) {X : Nat → Prop} (hk : Keeps X w w') (hx : ∀ k, X k → own k ≠ 0 → ∀ p, p < 5 → own k ≠ tg i p) (ho : ∀ k, k < w.heap.size → own' k = own k) (hn : ∀ k, w'.heap.size ≤ k → own' k = 0) : TAt w' own' i b c s cl q cm o ev ce oe := by
  have hx' : ∀ p, p < 5 → ∀ k, X k → own k ≠ tg i p := fun p hp k hX e => hx k hX (by rw [e]; exact tg_pos _ _) p hp e
  refine ⟨?_, (ho b h.lt).trans h.ownb, h.lq.keeps hk (hx' 1 (by omega)) ho, h.lcm.keeps hk (hx' 2 (by omega)) ho, h.lo.keeps hk (hx' 3 (by omega)) ho, ownsRow_keepsB h.lev hk (fun k hb hX => hx' 4 (by omega) k hX (h.owne k hb)), fun k hb => (ho k (World.ownsRow.lt h.lev k hb).2).trans (h.owne k hb), ?_, hn, h.cok, h.sok⟩
  · rw [hk.block b h.lt (fun hX => hx' 0 (by omega) b hX h.ownb)]; exact h.head
  · exact (ho 0 h.pos).trans h.own0
theorem TAt.later (h : TAt w own i b c s cl q cm o ev ce oe) (hb : Below w.heap.size w w') : TAt w' own i b c s cl q cm o ev ce oe :=
  h.others (X := fun _ => False) (Keeps.of hb) (fun _ hX => absurd hX id) (fun _ _ => rfl) (fun k hs => h.new0 k (Nat.le_trans hb.size hs))
end
/-- A call that answers nothing. -/
def TDid (i b : Nat) (c : Cfg) (s' : St) (cl : Bool) (own : Nat → Nat) (w : World) (e : Ending) (w' : World) : Prop :=
  e = .returned (.tuple #[]) ∧ ∃ own', Ttn w' own' i b c s' cl ∧ Upd i own own' w w'
/-- A call that answers with an error's number. -/
def TAns (n : Nat) (i b : Nat) (c : Cfg) (s' : St) (cl : Bool) (own : Nat → Nat) (w : World) (e : Ending) (w' : World) : Prop :=
  e = .returned (.int .i64 n) ∧ ∃ own', Ttn w' own' i b c s' cl ∧ Upd i own own' w w'
end Go.Proofs.YtkalonhalhdlaaaGreatDoor

/-
  What the small methods of the document's station do.
-/
namespace Go.Proofs.YtkalonhalhdlaaaGreatDoor
open Go.RowKit
section
variable {w W : World} {own : Nat → Nat} {i b : Nat} {c : Cfg} {s : St} {cl : Bool} {q cm o ev : Value} {ce oe : List Value}
theorem TAt.drewN (h : TAt w own i b c s cl q cm o ev ce oe) (n : Nat) : TAt (w.drewN n) own i b c s cl q cm o ev ce oe :=
  h.others (X := fun _ => False) ((Keeps.refl _ w).drewN n) (fun _ hX => absurd hX id) (fun _ _ => rfl) h.new0
theorem TAt.headAfter (h : TAt w own i b c s cl q cm o ev ce oe) {w1 w3 : World} {x : Obj} {v : Value} (hb : Below w.heap.size w w1) (hg : (w1.alloc x).grownBy w3 v.ownBlock) (hv : ∀ k, v.ownBlock = some k → own k ≠ tg i 0) : w3.heap[b]? = some (.cells (ttCells c s cl q cm o ev) 137 (0, 0)) := by
  have hlt := h.lt
  have hz := hb.size
  rw [hg.block b (by rw [alloc1_s]; omega) (fun e => hv b e.symm h.ownb), Below.heap_alloc _ _ _ (by omega), hb.block b hlt]
  exact h.head
/-- Row ev has grown by one, and the station's block is written. -/
theorem TAt.told (h : TAt w own i b c s cl q cm o ev ce oe) {ev' : Value} {n : Nat} {w2 w3 : World}
    (hb2 : Below w.heap.size w w2) (hg : w2.grownBy w3 ev.ownBlock) (hrow : w3.ownsRow 0 3 1 ev' (s.events.length + 1) ((s.events.map fun n => .int .i64 (n : Nat)) ++ [.int .i64 (n : Nat)]))
    (hob : ev'.ownBlock = ev.ownBlock ∨ ∃ k, ev'.ownBlock = some k ∧ w2.heap.size ≤ k) :
    TAt (w3.setCell ⟨b, 20, none⟩ ev') (ownNew own w.heap.size w3.heap.size (tg i 4)) i b c { s with events := s.events ++ [n] } cl q cm o ev' ce oe ∧ Upd i own (ownNew own w.heap.size w3.heap.size (tg i 4)) w (w3.setCell ⟨b, 20, none⟩ ev') := by
  have hz2 := hb2.size
  have hz3 := hg.size
  have hob' : ∀ k, ev'.ownBlock = some k → own k = tg i 4 ∨ w.heap.size ≤ k := by
    intro k hk
    rcases hob with e | ⟨k2, e, h2⟩
    · rw [e] at hk; exact .inl (h.owne k hk)
    · rw [e] at hk; simp at hk; omega
  have hK2 : Keeps (fun k => some k = ev.ownBlock) w w3 := (Keeps.of hb2).trans (Keeps.grown hg)
  have hro : ∀ k, some k = ev.ownBlock → own k = tg i 4 := fun k hk => h.owne k hk.symm
  have hold : ∀ k, k < w.heap.size → ownNew own w.heap.size w3.heap.size (tg i 4) k = own k := fun k hk => ownNew_old hk
  have hbr : ¬ some b = ev.ownBlock := fun e => by have := hro b e; rw [h.ownb] at this; exact tg_ne (by omega) (by omega) (.inr (by omega)) this
  have hlt := h.lt
  have hhead3 : w3.heap[b]? = some (.cells (ttCells c s cl q cm o ev) 137 (0, 0)) := by rw [hK2.block b hlt hbr]; exact h.head
  have hKb : Keeps (· = b) w3 (w3.setCell ⟨b, 20, none⟩ ev') := (Keeps.refl _ w3).setB _ _
  have hK : Keeps (fun k => some k = ev.ownBlock ∨ k = b) w (w3.setCell ⟨b, 20, none⟩ ev') := (hK2.mono (fun _ h => .inl h)).trans (hKb.mono (fun _ h => .inr h))
  have hne : ∀ p, p < 5 → p ≠ 0 → p ≠ 4 → ∀ k, (some k = ev.ownBlock ∨ k = b) → own k ≠ tg i p := by
    intro p hp h0 h3 k hk
    rcases hk with hk | hk
    · rw [hro k hk]; exact tg_ne (by omega) hp (.inr (by omega))
    · rw [hk, h.ownb]; exact tg_ne (by omega) hp (.inr (by omega))
  refine ⟨⟨?_, (hold b hlt).trans h.ownb, h.lq.keeps hK (hne 1 (by omega) (by omega) (by omega)) hold, h.lcm.keeps hK (hne 2 (by omega) (by omega) (by omega)) hold, h.lo.keeps hK (hne 3 (by omega) (by omega) (by omega)) hold, ?_, ?_, (hold 0 h.pos).trans h.own0, fun k hk => ownNew_0 (by omega) (by rw [size_setCell] at hk; exact hk), h.cok, h.sok.events _⟩, ⟨?_, hold⟩⟩
  · exact block_set hhead3 ev'
  · have e1 : (s.events ++ [n]).length = s.events.length + 1 := by simp
    have e2 : ((s.events ++ [n]).map fun n => Value.int .i64 (n : Nat)) = (s.events.map fun n => .int .i64 (n : Nat)) ++ [.int .i64 (n : Nat)] := by simp
    show World.ownsRow _ _ _ _ _ (s.events ++ [n]).length ((s.events ++ [n]).map _)
    rw [e1, e2]
    refine ownsRow_keepsB hrow hKb (fun k hk e => ?_)
    rcases hob' k hk with h1 | h1
    · rw [e, h.ownb] at h1; exact tg_ne (by omega) (by omega) (.inr (by omega)) h1
    · omega
  · intro k hk
    rcases hob with e | ⟨k2, e, h2⟩
    · rw [e] at hk
      have := World.ownsRow.lt h.lev k hk
      rw [ownNew_old this.2]
      exact h.owne k hk
    · rw [e] at hk
      simp at hk
      have h4 := (World.ownsRow.lt hrow k2 e).2
      exact ownNew_new (by omega) (by omega)
  · exact hK.mono (fun k hk => by rcases hk with hk | hk; exact ⟨4, by omega, hro k hk⟩; exact ⟨0, by omega, by rw [hk]; exact h.ownb⟩)
set_option maxHeartbeats 4000000 in
set_option maxRecDepth 100000 in
theorem event_ref (h : TAt w own i b c s cl q cm o ev ce oe) (n : Nat) (hl : s.events.length ≤ 2199023255552) :
    Calls Tryz.prog 136 #[.pointer (some ⟨b, 0, none⟩), .int .i64 n] w fun e w' => TDid i b c (tell n s) cl own w e w' := by
  obtain ⟨i1, hi1, hy0, hy1, hy2⟩ := info_parts infoIntS
  obtain ⟨op, ocap, hoe⟩ := row_slice h.lev
  subst hoe
  have c20 := h.cell 20 rfl
  have fz := h.fz
  have hlt := h.lt
  have HO := hide (World.ownsRow.alloc h.lev (.cells #[.int .i64 (n : Nat)] 3))
  have HM1 : Hid (s.events.length + 1 ≤ maxLen) := hide (by unfold maxLen; omega)
  have HM2 : Hid ((s.events.length + 1) * 8 ≤ 140737488355328) := hide (by omega)
  have H := hide h
  clear h
  go_enter Tryz.func136, Tryz.ntmps136
  go_wp2_with (at_builtin; refine wpList_append_own_at _ rfl _ _ 62 rfl 0 3 i1 _ 1 8 Tryz.underlying62 hi1 hy0 hy1 hy2 rfl (by decide) _ _ _ rfl (unhide HO) ⟨w.heap.size, 0, none⟩ 1 1 [.int .i64 (n : Nat)] rfl rfl (cell_one_new _ _ _) (one_int _ _) (unhide HM1) (unhide HM2) (Nat.zero_le _) ?_)
  intro o' w3 hrow hg _ hob
  obtain ⟨p', cap', hoe'⟩ := row_slice hrow
  subst hoe'
  have h1 := unhide H
  have hh := h1.headAfter (Below.refl _ w) hg (fun k hk e => tg_ne (i := i) (j := i) (p := 4) (q := 0) (by omega) (by omega) (.inr (by omega)) ((h1.owne k hk).symm.trans e))
  have hS := h1.told ((Below.refl _ w).alloc (Nat.le_refl _) _) hg hrow (by rcases hob with e | e; exact .inl e; exact .inr ⟨_, e, by simp⟩)
  have HS := hide hS
  have fz3 : ∀ j, w3.frozen? ⟨b, j, none⟩ = false := fun j => Lib.frozen_of_heap hh j
  have c3 : w3.cell? ⟨b, 20, none⟩ = some (.slice op s.events.length ocap) := by rw [Lib.cell_of_heap hh]; rfl
  clear hS hob hrow hg hh h1 fz c20 HO H
  go_wp2
  go_end0
  exact ⟨rfl, _, ⟨_, _, _, _, _, _, (unhide HS).1⟩, (unhide HS).2⟩
set_option maxHeartbeats 1000000 in
set_option maxRecDepth 100000 in
theorem heldUp_ref (h : TAt w own i b c s cl q cm o ev ce oe) :
    Calls Tryz.prog 91 #[.pointer (some ⟨b, 0, none⟩)] w fun e w' => e = .returned (.bool (heldUp c s)) ∧ ∃ k, w' = w.drewN k := by
  obtain ⟨p, cap, rfl, hc1, hc2⟩ := h.lcm.slice
  have c16 : w.cell? ⟨b, 16, none⟩ = some (.bool s.busy) := h.cell 16 rfl
  have c18 : w.cell? ⟨b, 18, none⟩ = some (.slice p s.came.length cap) := h.cell 18 rfl
  have c4 : w.cell? ⟨b, 4, none⟩ = some (.int .i64 c.room) := h.cell 4 rfl
  have hr := h.sok.came
  have hr2 := h.cok.room16
  have hf : heldUp c s = (s.busy || decide (c.room ≤ s.came.length)) := rfl
  have HF := hide hf
  clear hf
  clear h
  unfold maxLen at hc2
  generalize s.came.length = n at *
  cases hb : s.busy with
  | true =>
    rw [hb] at c16 HF
    go_enter Tryz.func91, Tryz.ntmps91
    go_wp2
    first | (go_ret; exact ⟨ret_bool (unhide HF).symm, 0, rfl⟩) | (go_quiet (fail); go_wp2; go_ret; exact ⟨ret_bool (unhide HF).symm, _, rfl⟩)
  | false =>
    rw [hb] at c16 HF
    have HF2 : Hid (heldUp c s = decide (c.room ≤ n)) := hide (by rw [unhide HF]; simp)
    go_enter Tryz.func91, Tryz.ntmps91
    go_wp2
    first | (go_ret; exact ⟨ret_bool (unhide HF2).symm, 0, rfl⟩) | (go_quiet (fail); go_wp2; go_ret; exact ⟨ret_bool (unhide HF2).symm, _, rfl⟩)
set_option maxHeartbeats 1000000 in
set_option maxRecDepth 100000 in
theorem away_ref (h : TAt w own i b c s cl q cm o ev ce oe) (a n : Nat) (ha : a < c.m) (hn : n < c.m) :
    Calls Tryz.prog 133 #[.pointer (some ⟨b, 0, none⟩), .int .i64 a, .int .i64 n] w fun e w' => e = .returned (.int .i64 ((n + c.m - a) % c.m : Nat)) ∧ ∃ k, w' = w.drewN k := by
  have c0 : w.cell? ⟨b, 0, none⟩ = some (.int .i64 c.m) := h.cell 0 rfl
  have hm := h.cok.m
  have hm0 : 0 < c.m := h.cok.pos
  have hm1 : c.m ≤ 128 := by omega
  have hz : ((c.m : Int) == 0) = false := by simp; omega
  have hf : ((n : Int) - a + c.m) % c.m = ((n + c.m - a) % c.m : Nat) := by
    have e : (n : Int) - a + c.m = ((n + c.m - a : Nat) : Int) := by omega
    rw [e]
    rfl
  have HF := hide hf
  clear hf hm h
  go_enter Tryz.func133, Tryz.ntmps133
  go_wp2
  first | (go_ret; exact ⟨ret_int (unhide HF), 0, rfl⟩) | (go_quiet (fail); go_wp2; go_ret; exact ⟨ret_int (unhide HF), _, rfl⟩)
end
end Go.Proofs.YtkalonhalhdlaaaGreatDoor

/-
  What over of the document's station does; its block alone, cell by cell.
-/
namespace Go.Proofs.YtkalonhalhdlaaaGreatDoor
open Go.RowKit
section
variable {w : World} {own : Nat → Nat} {i b : Nat} {c : Cfg} {s : St} {cl : Bool} {q cm o ev : Value} {ce oe : List Value}
def THead (w : World) (b : Nat) (c : Cfg) (s : St) (cl : Bool) (q cm o ev : Value) : Prop := w.heap[b]? = some (.cells (ttCells c s cl q cm o ev) 137 (0, 0))
theorem THead.state (h : THead w b c s cl q cm o ev) (k : Nat) : THead (w.setCell ⟨b, 6, none⟩ (.int .i64 k)) b c { s with state := k } cl q cm o ev := block_set h _
theorem THead.vs (h : THead w b c s cl q cm o ev) (k : Nat) : THead (w.setCell ⟨b, 7, none⟩ (.int .i64 k)) b c { s with vs := k } cl q cm o ev := block_set h _
theorem THead.va (h : THead w b c s cl q cm o ev) (k : Nat) : THead (w.setCell ⟨b, 8, none⟩ (.int .i64 k)) b c { s with va := k } cl q cm o ev := block_set h _
theorem THead.vr (h : THead w b c s cl q cm o ev) (k : Nat) : THead (w.setCell ⟨b, 9, none⟩ (.int .i64 k)) b c { s with vr := k } cl q cm o ev := block_set h _
theorem THead.vm (h : THead w b c s cl q cm o ev) (k : Nat) : THead (w.setCell ⟨b, 10, none⟩ (.int .i64 k)) b c { s with vm := k } cl q cm o ev := block_set h _
theorem THead.timer (h : THead w b c s cl q cm o ev) (k : Nat) : THead (w.setCell ⟨b, 12, none⟩ (.int .i64 k)) b c { s with timer := k } cl q cm o ev := block_set h _
theorem THead.tries (h : THead w b c s cl q cm o ev) (k : Nat) : THead (w.setCell ⟨b, 13, none⟩ (.int .i64 k)) b c { s with tries := k } cl q cm o ev := block_set h _
theorem THead.polling (h : THead w b c s cl q cm o ev) (k : Bool) : THead (w.setCell ⟨b, 14, none⟩ (.bool k)) b c { s with polling := k } cl q cm o ev := block_set h _
theorem THead.peer (h : THead w b c s cl q cm o ev) (k : Bool) : THead (w.setCell ⟨b, 15, none⟩ (.bool k)) b c { s with peer := k } cl q cm o ev := block_set h _
theorem THead.busy (h : THead w b c s cl q cm o ev) (k : Bool) : THead (w.setCell ⟨b, 16, none⟩ (.bool k)) b c { s with busy := k } cl q cm o ev := block_set h _
theorem THead.rejected (h : THead w b c s cl q cm o ev) (k : Bool) : THead (w.setCell ⟨b, 17, none⟩ (.bool k)) b c { s with rejected := k } cl q cm o ev := block_set h _
theorem THead.lq (h : THead w b c s cl q cm o ev) (k : Value) : THead (w.setCell ⟨b, 11, none⟩ k) b c s cl k cm o ev := block_set h _
theorem THead.lcm (h : THead w b c s cl q cm o ev) (k : Value) : THead (w.setCell ⟨b, 18, none⟩ k) b c s cl q k o ev := block_set h _
theorem THead.lo (h : THead w b c s cl q cm o ev) (k : Value) : THead (w.setCell ⟨b, 19, none⟩ k) b c s cl q cm k ev := block_set h _
theorem THead.lev (h : THead w b c s cl q cm o ev) (k : Value) : THead (w.setCell ⟨b, 20, none⟩ k) b c s cl q cm o k := block_set h _
theorem THead.shut (h : THead w b c s cl q cm o ev) (k : Bool) : THead (w.setCell ⟨b, 21, none⟩ (.bool k)) b c s k q cm o ev := block_set h _
theorem THead.as (h : THead w b c s cl q cm o ev) (s' : St) (e : s' = { s with queue := s'.queue, came := s'.came, out := s'.out, events := s'.events }) : THead w b c s' cl q cm o ev := by
  rw [e]
  exact h
theorem TAt.hd (h : TAt w own i b c s cl q cm o ev ce oe) : THead w b c s cl q cm o ev := h.head
/-- Its block is written; its numbers are others, and lists of it are let go of, or (the queue) cut. -/
theorem TAt.wroteL (h : TAt w own i b c s cl q cm o ev ce oe) {s' : St} {cl' : Bool} {w' : World} {q' cm' o' ev' : Value} {ce' oe' : List Value} (hk : Keeps (· = b) w w') (hh : THead w' b c s' cl' q' cm' o' ev')
    (e1 : QRow w own (tg i 1) q' s'.queue) (e2 : Stays cm cm' ce ce' s.came s'.came) (e3 : Stays o o' oe oe' s.out s'.out) (e4 : (ev' = ev ∧ s'.events = s.events) ∨ (ev' = .slice none 0 0 ∧ s'.events = [])) (hok : s'.fit c) : TAt w' own i b c s' cl' q' cm' o' ev' ce' oe' := by
  have hne : ∀ p, p ≠ 0 → p < 5 → ∀ k, k = b → own k ≠ tg i p := fun p hp hp5 k hk => by rw [hk, h.ownb]; exact tg_ne (by omega) hp5 (.inr (fun e => hp e.symm))
  refine ⟨hh, h.ownb, ?_, ?_, ?_, ?_, ?_, h.own0, fun k hs => h.new0 k (Nat.le_trans hk.size hs), h.cok, hok⟩
  · exact e1.keeps hk (hne 1 (by omega) (by omega)) (fun _ _ => rfl)
  · exact e2.lst (h.lcm.keeps hk (hne 2 (by omega) (by omega)) (fun _ _ => rfl))
  · exact e3.lst (h.lo.keeps hk (hne 3 (by omega) (by omega)) (fun _ _ => rfl))
  · rcases e4 with ⟨rfl, e⟩ | ⟨rfl, e⟩
    · rw [e]; exact ownsRow_keepsB h.lev hk (fun k hb hX => hne 4 (by omega) (by omega) k hX (h.owne k hb))
    · rw [e]; exact World.ownsRow_nil _ _ _ _
  · rcases e4 with ⟨rfl, e⟩ | ⟨rfl, e⟩
    · exact h.owne
    · intro k hk; simp [Value.ownBlock] at hk
set_option maxHeartbeats 4000000 in
set_option maxRecDepth 100000 in
theorem over_ref (h : TAt w own i b c s cl q cm o ev ce oe) :
    Calls Tryz.prog 127 #[.pointer (some ⟨b, 0, none⟩)] w fun e w' => e = .returned (.tuple #[]) ∧ TAt w' own i b c (over s) cl (.slice none 0 0) cm o ev ce oe ∧ Upd i own own w w' := by
  have c7 : w.cell? ⟨b, 7, none⟩ = some (.int .i64 s.vs) := h.cell 7 rfl
  have c8 : w.cell? ⟨b, 8, none⟩ = some (.int .i64 s.va) := h.cell 8 rfl
  have c9 : w.cell? ⟨b, 9, none⟩ = some (.int .i64 s.vr) := h.cell 9 rfl
  have c10 : w.cell? ⟨b, 10, none⟩ = some (.int .i64 s.vm) := h.cell 10 rfl
  have c11 : w.cell? ⟨b, 11, none⟩ = some q := h.cell 11 rfl
  have c12 : w.cell? ⟨b, 12, none⟩ = some (.int .i64 s.timer) := h.cell 12 rfl
  have c13 : w.cell? ⟨b, 13, none⟩ = some (.int .i64 s.tries) := h.cell 13 rfl
  have c14 : w.cell? ⟨b, 14, none⟩ = some (.bool s.polling) := h.cell 14 rfl
  have c15 : w.cell? ⟨b, 15, none⟩ = some (.bool s.peer) := h.cell 15 rfl
  have c17 : w.cell? ⟨b, 17, none⟩ = some (.bool s.rejected) := h.cell 17 rfl
  have fz := h.fz
  have hlt := h.lt
  have H := hide h
  clear h
  go_enter Tryz.func127, Tryz.ntmps127
  go_wp2
  go_end0
  have h := unhide H
  have hK : Keeps (· = b) w _ := ((((((((((Keeps.refl _ w).setB 7 (.int .i64 0)).setB 8 (.int .i64 0)).setB 9 (.int .i64 0)).setB 10 (.int .i64 0)).setB 13 (.int .i64 0)).setB 11 (.slice none 0 0)).setB 12 (.int .i64 0)).setB 14 (.bool false)).setB 17 (.bool false)).setB 15 (.bool false)
  exact ⟨rfl, h.wroteL hK (((((((((((h.hd.vs 0).va 0).vr 0).vm 0).tries 0).lq _).timer 0).polling false).rejected false).peer false).as (over s) rfl) (QRow.nil _ _ _) Stays.same Stays.same (.inl ⟨rfl, rfl⟩) (over_fit' h.cok h.sok), h.upd hK⟩
end
end Go.Proofs.YtkalonhalhdlaaaGreatDoor

/-
  Read of Write is the frame: in plain words.
-/
namespace Go.Proofs.YtkalonhalhdlaaaGreatDoor
open Go.RowKit
theorem u8n {n : Nat} (h : n < 256) : (UInt8.ofNat n).toNat = n := by
  have : (UInt8.ofNat n).toNat = n % 256 := by simp
  rw [this, Nat.mod_eq_of_lt h]
theorem kf_even (m c : Nat) (h : c % 2 = 0) : kindFrom m c 1 9 = some 1 := by
  have e : c &&& maskN m 1 = baseN m 1 := by
    simp [maskN, baseN, tabN, h]
  unfold kindFrom
  rw [if_pos e]
end Go.Proofs.YtkalonhalhdlaaaGreatDoor

/-
  What one call of the law's feeds does: a text of noughts and ones.
-/
namespace Go.Proofs.YtkalonhalhdlaaaGreatDoor
open Go.RowKit
theorem bytes_conv {w : World} {base : Nat} {f : Nat × List UInt8} {p : Option Addr} {cap : Nat} (h : Bytes w base f p cap) (N : Nat) :
    (convert 28 9 (.slice p f.2.length cap)).run Tryz.prog (w.drewN N) = .ok (.string ⟨f.2.toArray⟩) (w.drewN N) := by
  have h1 : SrcIs (w.drewN N) p f.2 := by
    rcases h.2 with ⟨hv, h0⟩ | ⟨g, cp, cur, hv, _, hg, _, _, _, ht⟩
    · simp only [Value.slice.injEq] at hv
      exact .inl ⟨hv.1, List.length_eq_zero_iff.1 h0⟩
    · simp only [Value.slice.injEq] at hv
      refine .inr ⟨g, 0, hv.1, (Array.getElem?_eq_some_iff.1 hg).1, ?_⟩
      intro i hi
      have hg2 : (w.drewN N).heap[g]? = some (.cells cur 5 (0, 0)) := hg
      rw [Lib.cell_of_heap hg2]
      have h1 := congrArg (fun l => l[i]?) ht
      simp only [Nat.mul_one, List.getElem?_take_of_lt hi] at h1
      rw [Nat.zero_add]
      have : cur[i]? = cur.toList[i]? := by simp
      rw [this, h1]
      simp [Lib.byteCells, hi]
  exact h1.conv cap
end Go.Proofs.YtkalonhalhdlaaaGreatDoor

/-
  A text as bytes of its own.
-/
namespace Go.Proofs.YtkalonhalhdlaaaGreatDoor
open Go.RowKit
theorem conv_bytes (w : World) (s : ByteArray) : (convert 9 28 (.string s)).run Tryz.prog w = .ok (.slice (some ⟨w.heap.size, 0, none⟩) s.size (grownCap w s.size 0 5)) (Lib.bytesWorld w 5 s) :=
  Lib.run_convert_string_bytes w 9 28 5 s Tryz.underlying9 Tryz.underlying28 Tryz.underlying5
theorem bytesWorld_below (w : World) (s : ByteArray) : Below w.heap.size w (Lib.bytesWorld w 5 s) := by
  refine ⟨?_, ?_, ?_, by rw [Lib.bytesWorld_size]; omega, fun k hk => Lib.bytesWorld_at_old w _ s k hk⟩
  all_goals rfl
theorem bytesWorld_seg2 (w : World) (s : ByteArray) : Seg (Lib.bytesWorld w 5 s) w.heap.size 0 s.data.toList := by
  intro i hi
  have hl : s.data.toList.length = s.size := by rw [Array.length_toList]; rfl
  rw [Nat.zero_add, Lib.bytesWorld_cell w _ _ i (by omega)]
end Go.Proofs.YtkalonhalhdlaaaGreatDoor

/-
  What the listed variable gives the walks.
-/
namespace Go.Proofs.YtkalonhalhdlaaaGreatDoor
open Go.ChangeShapes Go.WideShapes Go.ChangeAt Go.RowKit
theorem law_own : ownKnob Tryz.prog.godebug = none := by kernel_rfl
theorem gCtl : Tryz.prog.globalNamed "tether/tether.controls" = some 0 := by kernel_rfl
theorem tCtl : (Tryz.prog.globals[0]?).map (·.type) = some 164 := by kernel_rfl
theorem uCtl : Tryz.prog.underlying 164 = some (.array 10 5) := by kernel_rfl
/-- What the condition gives the walks. -/
theorem of_laid {W : World} (h : laidMetH Tryz.prog [("tether/tether.controls", Rows.laid_tether_tether_controls)] W) : Ctl W ∧ 0 < W.heap.size := by
  rw [MakeChecks.laidMetH_plain _ _ _ (by kernel_rfl)] at h
  obtain ⟨ps, ⟨g0, t0, cs0, f0, p0, q0, hg0, ht0, hv0, hd0, _, _⟩, _, _⟩ := h
  obtain rfl := Option.some.inj (gCtl.symm.trans hg0)
  obtain rfl := Option.some.inj (tCtl.symm.trans ht0)
  have c5 : Tryz.prog.cellsOf 5 = 1 := by kernel_rfl
  obtain ⟨xs, m1, rfl, hx1, hlen, hn, hel⟩ := DataW.trod_array uCtl hd0
  have hC : Ctl W := by
    intro i hi
    rw [World.var?_cell hg0 hv0 i]
    have h1 := hel i hi
    rw [c5, Nat.mul_one] at h1
    simp only [Prod.mk.injEq, Rows.laid_tether_tether_controls, DataW.agg.injEq] at hx1
    have hxi : xs[i]? = some xs[i] := List.getElem?_eq_getElem (by omega)
    rw [hxi] at h1
    obtain ⟨k, e1, e2, _⟩ := DataW.trod_int Tryz.underlying5 h1
    have h2 : (xs.map (·.1))[i]? = some (.lit (.int .u8 k)) := by rw [List.getElem?_map, hxi, e2]; rfl
    rw [← hx1.1] at h2
    have h3 : cs0[i]? = some (.int .u8 k) := by
      have : (cs0.toList.drop i)[0]? = some (.int .u8 k) := by
        have := congrArg (fun l => l[0]?) e1
        simpa using this
      simpa using this
    rw [h3]
    have hcases : i = 0 ∨ i = 1 ∨ i = 2 ∨ i = 3 ∨ i = 4 ∨ i = 5 ∨ i = 6 ∨ i = 7 ∨ i = 8 ∨ i = 9 := by omega
    rcases hcases with rfl | rfl | rfl | rfl | rfl | rfl | rfl | rfl | rfl | rfl <;> simp at h2 <;> simp [← h2, tabN]
  exact ⟨hC, World.block_lt_of_cell? W _ (hC 0 (by omega))⟩
end Go.Proofs.YtkalonhalhdlaaaGreatDoor
