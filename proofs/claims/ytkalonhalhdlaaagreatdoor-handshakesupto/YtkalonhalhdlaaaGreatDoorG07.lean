import Derived.Test.YtkalonhalhdlaaaGreatDoorG05
import Derived.Test.YtkalonhalhdlaaaGreatDoorG01
import Derived.BigQuiet
import Derived.Deep.QuietTactic
import Derived.BigCall
import Derived.Test.YtkalonhalhdlaaaGreatDoorG04
import Derived.Shelf.Strings.BuilderF
import Derived.Lib.FrozenHead2
import Derived.Lib.OthersKept
import Derived.WalkKit
import Derived.Test.YtkalonhalhdlaaaGreatDoorProg
/-
  What one call of the book's looks does, with all four kinds of lists.
-/
namespace Go.Proofs.YtkalonhalhdlaaaGreatDoor
open Go.RowKit
theorem quo4 (k : Nat) : (k : Int).tdiv 4 = ((k / 4 : Nat) : Int) := by
  rw [Int.tdiv_eq_ediv_of_nonneg (by omega)]; omega
theorem quo1024 (k : Nat) : (k : Int).tdiv 1024 = ((k / 1024 : Nat) : Int) := by
  rw [Int.tdiv_eq_ediv_of_nonneg (by omega)]; omega
theorem reps_two (a b : Value) (n q : Nat) (h : q < n) : (reps [a, b] n)[q * 2]? = some a ∧ (reps [a, b] n)[q * 2 + 1]? = some b := by
  induction n generalizing q with
  | zero => omega
  | succ n ih =>
    have e : reps [a, b] (n + 1) = a :: b :: reps [a, b] n := by simp [reps, List.replicate_succ]
    rw [e]
    cases q with
    | zero => simp
    | succ q =>
      have := ih q (by omega)
      rw [show (q + 1) * 2 = q * 2 + 1 + 1 by omega]
      simpa using this
theorem bytes_neq_none (w : World) : (binOp .neq 28 (.slice none 0 0) (.slice none 0 0)).run Tryz.prog w = .ok (.bool false) w := by kernel_rfl
set_option maxHeartbeats 8000000 in
set_option maxRecDepth 1000000 in
theorem looks_bk (wb : Nat) (hs ss : Value) (b : Bk) (w : World) (h : BkAt w wb hs ss b) (hb : b.eb.length ≤ 4000000000000) (hf : b.ef.length ≤ 1099511627776) (hl : b.el.length ≤ 1099511627776) (hi : b.ei.length ≤ 1099511627776) :
    Calls Tryz.prog 13 #[.pointer (some ⟨wb, 2, none⟩)] w fun e w' => e = .returned (.bool true) ∧ w' = w := by
  have c2 := h.head.cell 2 _ rfl
  have c3 := h.head.cell 3 _ rfl
  have c4 := h.head.cell 4 _ rfl
  have c5 := h.head.cell 5 _ rfl
  obtain ⟨bp, bc, e1, hbp⟩ := ownsRow_slice h.rb
  obtain ⟨fp, fc, e2, hfp⟩ := ownsRow_slice h.rf
  obtain ⟨lp, lc, e3, hlp⟩ := ownsRow_slice h.rl
  obtain ⟨ip, ic, e4, hip⟩ := ownsRow_slice h.ri
  rw [e1] at c2
  rw [e2] at c3
  rw [e3] at c4
  rw [e4] at c5
  have HRB := hide (e1 ▸ h.rb)
  have HRF := hide (e2 ▸ h.rf)
  have HRL := hide (e3 ▸ h.rl)
  have HRI := hide (e4 ▸ h.ri)
  have HMB := hide h.mb
  have HMF := hide h.mf
  have HML := hide h.ml
  have HMI := hide h.mi
  have HT := hide h.two
  have HMK := fun i hi => mark_any i w hi
  clear h e1 e2 e3 e4
  generalize b.eb = eb at *
  generalize b.ef = ef at *
  generalize b.el = el at *
  generalize b.ei = ei at *
  go_enter Tryz.func13, Tryz.ntmps13
  go_wp2_with fail
  go_loop [3] (fun i => ∃ k : Nat, k ≤ eb.length ∧ i = .int .i64 k) (fun i => eb.length - (intOf i).toNat)
  case atStart => exact ⟨0, Nat.zero_le _, rfl⟩
  case round =>
    obtain ⟨k, hk, rfl⟩ := hrel
    by_cases hlt : k < eb.length
    · obtain ⟨g, rfl⟩ := hbp (by omega)
      obtain ⟨v, hv⟩ : ∃ v, eb[k]? = some v := ⟨_, List.getElem?_eq_getElem hlt⟩
      obtain ⟨n, hmk, hn⟩ := unhide HMB k v hv
      have cE := (unhide HRB).cellAt k (by omega)
      rw [hv] at cE
      obtain ⟨p, cp, rfl, hpg⟩ := ownsRow_slice hmk
      have HK := hide hmk
      clear hmk
      have hmk := HMK k (by unfold maxLen; omega)
      generalize hmkN : markN k = mk at hmk HK
      go_wp2_with fail
      refine hmk.mono ?_
      rintro e W1 ⟨rfl, rfl⟩
      go_wp2
      go_loop [5] (fun j => ∃ q : Nat, q ≤ n ∧ j = .int .i64 q) (fun j => n - (intOf j).toNat)
      case atStart => exact ⟨0, Nat.zero_le _, rfl⟩
      case round =>
        obtain ⟨q, hq, rfl⟩ := hrel
        by_cases hlq : q < n
        · obtain ⟨g2, rfl⟩ := hpg (by omega)
          have cU := World.ownsRow.cellAt (unhide HK) q (by simp; omega)
          have e2 : (reps [Value.int .u8 (mk : Nat)] n)[q]? = some (.int .u8 (mk : Nat)) := by simp [reps, hlq]
          rw [e2] at cU
          go_wp2
          go_round
          case rel => exact ⟨q + 1, hlq, by go_num⟩
          case measure => simp [intOf]; omega
        · have hqn : q = n := by omega
          subst hqn
          go_wp2
          go_round
          case rel => exact ⟨k + 1, hlt, by go_num⟩
          case measure => simp [intOf]; omega
    · have hkn : k = eb.length := by omega
      subst hkn
      clear HRB HMB HMK hbp
      go_wp2
      go_loop [6] (fun i => ∃ k : Nat, k ≤ ei.length ∧ i = .int .i64 k) (fun i => ei.length - (intOf i).toNat)
      case atStart => exact ⟨0, Nat.zero_le _, rfl⟩
      case round =>
        obtain ⟨k, hk, rfl⟩ := hrel
        by_cases hlt : k < ei.length
        · obtain ⟨g, rfl⟩ := hip (by omega)
          obtain ⟨v, hv⟩ : ∃ v, ei[k]? = some v := ⟨_, List.getElem?_eq_getElem hlt⟩
          obtain ⟨n, hmk, hn⟩ := unhide HMI k v hv
          have cE := (unhide HRI).cellAt k (by omega)
          rw [hv] at cE
          obtain ⟨p, cp, rfl, hpg⟩ := ownsRow_slice hmk
          have HK := hide hmk
          clear hmk
          have hq4 := quo4 k
          go_wp2
          go_loop [7] (fun j => ∃ q : Nat, q ≤ n ∧ j = .int .i64 q) (fun j => n - (intOf j).toNat)
          case atStart => exact ⟨0, Nat.zero_le _, rfl⟩
          case round =>
            obtain ⟨q, hq, rfl⟩ := hrel
            by_cases hlq : q < n
            · obtain ⟨g2, rfl⟩ := hpg (by omega)
              have cU := World.ownsRow.cellAt (unhide HK) q (by simp [mkI]; omega)
              have e2 : (reps (mkI k) n)[q]? = some (.int .i64 (-1000 - (k : Int) / 4)) := by simp [reps, hlq, mkI]
              rw [e2] at cU
              go_wp2
              go_round
              case rel => exact ⟨q + 1, hlq, by go_num⟩
              case measure => simp [intOf]; omega
            · have hqn : q = n := by omega
              subst hqn
              go_wp2
              go_round
              case rel => exact ⟨k + 1, hlt, by go_num⟩
              case measure => simp [intOf]; omega
        · have hkn : k = ei.length := by omega
          subst hkn
          clear HRI HMI hip
          go_wp2
          go_loop [8] (fun i => ∃ k : Nat, k ≤ ef.length ∧ i = .int .i64 k) (fun i => ef.length - (intOf i).toNat)
          case atStart => exact ⟨0, Nat.zero_le _, rfl⟩
          case round =>
            obtain ⟨k, hk, rfl⟩ := hrel
            by_cases hlt : k < ef.length
            · obtain ⟨g, rfl⟩ := hfp (by omega)
              obtain ⟨v, hv⟩ : ∃ v, ef[k]? = some v := ⟨_, List.getElem?_eq_getElem hlt⟩
              obtain ⟨n, hmk, hn⟩ := unhide HMF k v hv
              have cE := (unhide HRF).cellAt k (by omega)
              rw [hv] at cE
              obtain ⟨p, cp, rfl, hpg⟩ := ownsRow_slice hmk
              have HK := hide hmk
              clear hmk
              have hq4 := quo4 k
              go_wp2
              go_loop [9] (fun j => ∃ q : Nat, q ≤ n ∧ j = .int .i64 q) (fun j => n - (intOf j).toNat)
              case atStart => exact ⟨0, Nat.zero_le _, rfl⟩
              case round =>
                obtain ⟨q, hq, rfl⟩ := hrel
                by_cases hlq : q < n
                · obtain ⟨g2, rfl⟩ := hpg (by omega)
                  have e2 := reps_two (.int .i64 (-1000 - (k : Int) / 4)) (.slice none 0 0) n q hlq
                  have cU := World.ownsRow.cells (unhide HK) (g := g2) rfl (q * 2) _ e2.1
                  have cV := World.ownsRow.cells (unhide HK) (g := g2) rfl (q * 2 + 1) _ e2.2
                  rw [Go.WideShapes.add_plain, Nat.zero_add] at cU cV
                  clear e2
                  have hnn := bytes_neq_none w
                  go_wp2
                  go_round
                  case rel => exact ⟨q + 1, hlq, by go_num⟩
                  case measure => simp [intOf]; omega
                · have hqn : q = n := by omega
                  subst hqn
                  go_wp2
                  go_round
                  case rel => exact ⟨k + 1, hlt, by go_num⟩
                  case measure => simp [intOf]; omega
            · have hkn : k = ef.length := by omega
              subst hkn
              clear HRF HMF hfp
              go_wp2
              go_loop [10] (fun i => ∃ k : Nat, k ≤ el.length ∧ i = .int .i64 k) (fun i => el.length - (intOf i).toNat)
              case atStart => exact ⟨0, Nat.zero_le _, rfl⟩
              case round =>
                obtain ⟨k, hk, rfl⟩ := hrel
                by_cases hlt : k < el.length
                · obtain ⟨g, rfl⟩ := hlp (by omega)
                  obtain ⟨v, hv⟩ : ∃ v, el[k]? = some v := ⟨_, List.getElem?_eq_getElem hlt⟩
                  obtain ⟨n, hmk, hn⟩ := unhide HML k v hv
                  have cE := (unhide HRL).cellAt k (by omega)
                  rw [hv] at cE
                  obtain ⟨p, cp, rfl, hpg⟩ := ownsRow_slice hmk
                  have HK := hide hmk
                  clear hmk
                  have hT := unhide HT k hlt
                  unfold TwoAt at hT
                  have t0 : w.cell? ⟨b.mg k, 0, none⟩ = some (.int .u8 ((k / 4 % 256 : Nat) : Int)) := by rw [Lib.cell_of_heap hT]; rfl
                  have t1 : w.cell? ⟨b.mg k, 1, none⟩ = some (.int .u8 ((k / 1024 % 256 : Nat) : Int)) := by rw [Lib.cell_of_heap hT]; rfl
                  clear hT
                  generalize hgm : b.mg k = gm at *
                  have hq4 := quo4 k
                  have hq5 := quo1024 k
                  go_wp2
                  go_loop [11] (fun j => ∃ q : Nat, q ≤ n ∧ j = .int .i64 q) (fun j => n - (intOf j).toNat)
                  case atStart => exact ⟨0, Nat.zero_le _, rfl⟩
                  case round =>
                    obtain ⟨q, hq, rfl⟩ := hrel
                    by_cases hlq : q < n
                    · obtain ⟨g2, rfl⟩ := hpg (by omega)
                      have cU := World.ownsRow.cellAt (unhide HK) q (by simp [mkL]; omega)
                      have e2 : (reps (mkL gm) n)[q]? = some (.slice (some ⟨gm, 0, none⟩) 2 2) := by simp [reps, hlq, mkL]
                      rw [e2] at cU
                      go_wp2
                      go_round
                      case rel => exact ⟨q + 1, hlq, by go_num⟩
                      case measure => simp [intOf]; omega
                    · have hqn : q = n := by omega
                      subst hqn
                      go_wp2
                      go_round
                      case rel => exact ⟨k + 1, hlt, by go_num⟩
                      case measure => simp [intOf]; omega
                · have hkn : k = el.length := by omega
                  subst hkn
                  go_wp2
                  exact bodyPost_ret (v := .bool true) (by simp [results, Tryz.results13, go_sem]) rfl ⟨rfl, rfl⟩
end Go.Proofs.YtkalonhalhdlaaaGreatDoor

/-
  A hunter in memory, and what its small methods do to it (NewHunter, onlyBits, add, abort): as in plain words (LPure); every other block stands as it stood.
-/
namespace Go.Proofs.YtkalonhalhdlaaaGreatDoor
open Go.RowKit
/-- A hunter's cells. -/
def hCells (h : HS) : List Value := .bool h.on :: .int .i64 h.ones :: .int .i64 h.len :: Lib.byteCells h.held
def HunterAt (w : World) (b : Nat) (h : HS) : Prop := w.heap[b]? = some (.cells (hCells h).toArray 106 (0, 0))
section
variable {w : World} {b : Nat} {h : HS}
theorem HunterAt.lt (k : HunterAt w b h) : b < w.heap.size := (Array.getElem?_eq_some_iff.1 k).1
theorem HunterAt.keeps {X : Nat → Prop} {w' : World} (k : HunterAt w b h) (hk : Keeps X w w') (hx : ¬ X b) : HunterAt w' b h := by
  show w'.heap[b]? = _
  rw [hk.block b k.lt hx]; exact k
end
end Go.Proofs.YtkalonhalhdlaaaGreatDoor

/-
  What the methods of a hunter do that tell something (abort, judge, endFrame) and those that take a bit (hearOne, hearNought, hear): as in plain words (LPure); every block but the hunter's stands as it stood.
-/
namespace Go.Proofs.YtkalonhalhdlaaaGreatDoor
open Go.RowKit
def Bytes (w : World) (base : Nat) (f : Nat × List UInt8) (p : Option Addr) (cap : Nat) : Prop := w.ownsRow base 5 1 (.slice p f.2.length cap) f.2.length (Lib.byteCells f.2)
theorem below_drewN {B : Nat} {a w : World} (h : Below B a w) (n : Nat) : Below B a (w.drewN n) := ⟨h.os, h.tape, h.output, h.size, h.block⟩
end Go.Proofs.YtkalonhalhdlaaaGreatDoor

/-
  What one call of the book's keepsFounds does.
-/
namespace Go.Proofs.YtkalonhalhdlaaaGreatDoor
open Go.RowKit
theorem newsL (w : World) (l : List Value) (e : TypeId) : ∀ j x, l[j]? = some x → (w.alloc (.cells l.toArray e)).cell? ((⟨w.heap.size, 0, none⟩ : Addr).add j) = some x := by
  intro j x hj
  rw [Go.WideShapes.add_plain, Lib.cell_of_heap (alloc1_a w _), Nat.zero_add, List.getElem?_toArray]
  exact hj
end Go.Proofs.YtkalonhalhdlaaaGreatDoor

/-
  What one call of the book's keepsInts does.
-/
namespace Go.Proofs.YtkalonhalhdlaaaGreatDoor
open Go.RowKit
theorem infoInt : (Tryz.prog.info? 3).map (fun i => (i.zero, i.size, i.bytes)) = some (some (.int .i64 0), 1, 8) := by kernel_rfl
theorem infoInts : (Tryz.prog.info? 62).map (fun i => (i.zero, i.size, i.bytes)) = some (some (.slice none 0 0), 1, 24) := by kernel_rfl
theorem int_step {wr : World} {g n cp k : Nat} {xs : List Value} {u : Value} (hk : k < n)
    (hv : wr.ownsRow 0 3 1 (.slice (some ⟨g, 0, none⟩) n cp) n (reps [u] k ++ xs.drop k)) (hx : xs.length = n) :
    (∃ x0, wr.cell? ⟨g, k, none⟩ = some x0) ∧ (∀ i, wr.frozen? ⟨g, i, none⟩ = false) ∧ (wr.setCell ⟨g, k, none⟩ u).ownsRow 0 3 1 (.slice (some ⟨g, 0, none⟩) n cp) n (reps [u] (k + 1) ++ xs.drop (k + 1)) ∧ Keeps (· = g) wr (wr.setCell ⟨g, k, none⟩ u) := by
  have h1 := (hv.stored k u).1
  rw [reps_put _ _ _ (by omega)] at h1
  have hl : (reps [u] k ++ xs.drop k).length = n * 1 := hv.1
  obtain ⟨x0, e0⟩ : ∃ x0, (reps [u] k ++ xs.drop k)[k]? = some x0 := ⟨_, List.getElem?_eq_getElem (by omega)⟩
  have c0 := World.ownsRow.cells hv (g := g) rfl k x0 e0
  rw [Go.WideShapes.add_plain, Nat.zero_add] at c0
  exact ⟨⟨x0, c0⟩, fun i => hv.frozenAt i, h1, (Keeps.refl _ wr).setB _ _⟩
set_option maxHeartbeats 8000000 in
set_option maxRecDepth 1000000 in
theorem keepsInts_any {WA : World} {wb n : Nat} {hs ss v : Value} {b : Bk} {xs : List Value} (X : Nat → Prop) (hX : X wb) (hXF : ∀ i, b.is.ownBlock = some i → X i) (hXV : ∀ i, v.ownBlock = some i → X i) (h : BkAt WA wb hs ss b) (hv : WA.ownsRow 0 3 1 v n xs)
    (hF : b.ei.length ≤ 1099511627776) (hT : n ≤ 1099511627776) :
    Calls Tryz.prog 50 #[.pointer (some ⟨wb, 2, none⟩), v] WA fun e w' => e = .returned (.tuple #[]) ∧ ∃ is' v1 v2 v3, KInv WA X wb w' #[hs, ss, b.bs, b.fs, b.ls, is'] 3 62 is' (b.ei ++ [v, v1, v2, v3]) (mkI b.ei.length) [(v, n), (v1, n + 1), (v2, n + 2), (v3, n + 3)] := by
  obtain ⟨i0, hi, hz0, hz1, hz2⟩ := info_parts infoInt
  obtain ⟨i1, hi1, hy0, hy1, hy2⟩ := info_parts infoInts
  obtain ⟨p, cp, rfl, hpg⟩ := ownsRow_slice hv
  have hxl : xs.length = n := by have := hv.1; omega
  obtain ⟨fp, fc, hfs, _⟩ := ownsRow_slice h.ri
  have d5 := h.head.cell 5 _ rfl
  rw [hfs] at d5 hXF
  have hq4 := quo4 b.ei.length
  have HROW : Hid (WA.ownsRow 0 3 1 (.slice p n cp) n (reps (mkI b.ei.length) 0 ++ xs.drop 0)) := hide (by simpa [reps] using hv)
  have hvrow : Hid (∀ i, some i = (Value.slice p n cp).ownBlock → ∃ cc, WA.heap[i]? = some (.cells cc 3 (0, 0))) := hide fun i hi => ownsRow_isRow hv hi.symm
  have hd0 := h.head
  have hr0 := h.ri
  rw [hfs] at hd0 hr0
  have HHEAD := hide hd0
  have HFS := hide hr0
  clear h hv hd0 hr0 hfs
  generalize b.bs = cbs at *
  generalize b.fs = cfs at *
  generalize b.ls = cls at *
  go_enter Tryz.func50, Tryz.ntmps50
  go_wp2
  go_loopw [5] (fun i wq => ∃ k : Nat, k ≤ n ∧ i = .int .i64 k ∧ wq.ownsRow 0 3 1 (.slice p n cp) n (reps (mkI b.ei.length) k ++ xs.drop k) ∧ Keeps (fun k => some k = (Value.slice p n cp).ownBlock) WA wq) (fun i _ => n - (intOf i).toNat)
  case atStart => exact ⟨0, Nat.zero_le _, rfl, unhide HROW, Keeps.refl _ _⟩
  case round =>
    obtain ⟨k, hk, rfl, hrow, hkp⟩ := hrel
    clear HROW d5
    by_cases hlt : k < n
    · obtain ⟨g, rfl⟩ := hpg (by omega)
      obtain ⟨⟨x0, c0⟩, f0, hst, hks⟩ := int_step hlt hrow hxl
      have HS : Hid (_ ∧ _) := hide (And.intro hst (hkp.trans (hks.mono (fun i hi => by rw [hi]; rfl))))
      clear hst hks hrow hkp
      go_wp2
      go_roundw
      case rel =>
        obtain ⟨q1, q2⟩ := unhide HS
        exact ⟨k + 1, hlt, by go_num, q1, q2⟩
      case measure => simp [intOf]; omega
    · have hkt : k = n := by omega
      subst hkt
      have hd : xs.drop k = [] := List.drop_eq_nil_of_le (by omega)
      rw [hd, List.append_nil] at hrow
      have hmk1 : MarksK wr 3 (mkI b.ei.length) (.slice p k cp) k := hrow
      have hhd : WAt wr wb #[hs, ss, cbs, cfs, cls, .slice fp b.ei.length fc] := by
        have h1 := unhide HHEAD
        refine h1.keeps hkp (fun hx => ?_)
        obtain ⟨cc, hc⟩ := unhide hvrow wb hx
        unfold WAt at h1
        rw [hc] at h1
        simp at h1
      have hfr : wr.ownsRow 0 62 1 (.slice fp b.ei.length fc) b.ei.length b.ei := by
        refine ownsRow_keepsB (unhide HFS) hkp (fun i hi hx => ?_)
        obtain ⟨cc, hc⟩ := unhide hvrow i hx
        obtain ⟨c2, hc2⟩ := ownsRow_isRow (unhide HFS) hi
        rw [hc] at hc2
        simp at hc2
      have HK0 : Hid (KInv WA X wb wr #[hs, ss, cbs, cfs, cls, .slice fp b.ei.length fc] 3 62 (.slice fp b.ei.length fc) b.ei (mkI b.ei.length) [(.slice p k cp, k)]) :=
        ⟨hhd, hfr, fun u hu => by simp at hu; subst hu; exact hmk1, hkp.mono (fun i hi => hXV i hi.symm), fun i hi => .inl (hXF i hi), fun u hu => by simp at hu; subst hu; exact fun i hi => .inl (hXV i hi)⟩
      have HMV : Hid (Mine X WA.heap.size (.slice p k cp)) := fun i hi => .inl (hXV i hi)
      have HM0 := hide hmk1
      have hsz0 := (unhide HK0).keeps.size
      have ho : ∀ u ∈ mkI b.ei.length, u.oneCell' = true := by intro u hu; unfold mkI at hu; simp at hu; subst hu; rfl
      have hmk0 : 0 < (mkI b.ei.length).length := Nat.zero_lt_succ _
      clear hmk1 hhd hfr hrow hkp hd HHEAD HFS hvrow
      have HA1 := hide (World.ownsRow.alloc (unhide HM0) (.cells #[.int .i64 (-1000 - (b.ei.length : Int) / 4)] 3))
      go_wp2_with (at_builtin; refine wpList_append_marks _ rfl _ _ 62 rfl 3 i0 _ 8 (mkI b.ei.length) Tryz.underlying62 hi hz0 hz1 hz2 rfl hmk0 ho _ _ rfl (unhide HA1) ⟨wr.heap.size, 0, none⟩ 1 1 (by decide) rfl ?m1c1 ?m1c2 ?m1c3 ?_)
      case m1c1 => first | exact newsL wr (reps (mkI b.ei.length) 1) 3 | exact fun j u hj => hj
      case m1c2 => unfold maxLen; omega
      case m1c3 => omega
      intro v1 w1 hm1 hk1 hg1 hb1
      have HK1 := hide ((unhide HK0).mark (by decide) (by decide) (unhide HM0) (unhide HMV) (by first | (simp; done) | (simp; omega)) hm1 hk1 hg1 (by rw [alloc1_s]; exact hb1))
      obtain ⟨p1, cp1, rfl, _⟩ := ownsRow_slice hm1
      have HM1 := hide ((unhide HK1).marks (.slice p k cp, k) (by simp))
      have hsz1 := (unhide HK1).keeps.size
      clear hm1 hk1 hg1 hb1 HA1 HM0 HK0
      have HA2 := hide (World.ownsRow.alloc (unhide HM1) (.cells #[.int .i64 (-1000 - (b.ei.length : Int) / 4), .int .i64 (-1000 - (b.ei.length : Int) / 4)] 3))
      go_wp2_with (at_builtin; refine wpList_append_marks _ rfl _ _ 62 rfl 3 i0 _ 8 (mkI b.ei.length) Tryz.underlying62 hi hz0 hz1 hz2 rfl hmk0 ho _ _ rfl (unhide HA2) ⟨w1.heap.size, 0, none⟩ 2 2 (by decide) rfl ?m2c1 ?m2c2 ?m2c3 ?_)
      case m2c1 => first | exact newsL w1 (reps (mkI b.ei.length) 2) 3 | exact fun j u hj => hj
      case m2c2 => unfold maxLen; omega
      case m2c3 => omega
      intro v2 w2 hm2 hk2 hg2 hb2
      have HK2 := hide ((unhide HK1).mark (by decide) (by decide) (unhide HM1) (unhide HMV) (by first | (simp; done) | (simp; omega)) hm2 hk2 hg2 (by rw [alloc1_s]; exact hb2))
      obtain ⟨p2, cp2, rfl, _⟩ := ownsRow_slice hm2
      have HM2 := hide ((unhide HK2).marks (.slice p k cp, k) (by simp))
      have hsz2 := (unhide HK2).keeps.size
      clear hm2 hk2 hg2 hb2 HA2 HM1 HK1
      have HA3 := hide (World.ownsRow.alloc (unhide HM2) (.cells #[.int .i64 (-1000 - (b.ei.length : Int) / 4), .int .i64 (-1000 - (b.ei.length : Int) / 4), .int .i64 (-1000 - (b.ei.length : Int) / 4)] 3))
      go_wp2_with (at_builtin; refine wpList_append_marks _ rfl _ _ 62 rfl 3 i0 _ 8 (mkI b.ei.length) Tryz.underlying62 hi hz0 hz1 hz2 rfl hmk0 ho _ _ rfl (unhide HA3) ⟨w2.heap.size, 0, none⟩ 3 3 (by decide) rfl ?m3c1 ?m3c2 ?m3c3 ?_)
      case m3c1 => first | exact newsL w2 (reps (mkI b.ei.length) 3) 3 | exact fun j u hj => hj
      case m3c2 => unfold maxLen; omega
      case m3c3 => omega
      intro v3 w3 hm3 hk3 hg3 hb3
      have HK3 := hide ((unhide HK2).mark (by decide) (by decide) (unhide HM2) (unhide HMV) (by first | (simp; done) | (simp; omega)) hm3 hk3 hg3 (by rw [alloc1_s]; exact hb3))
      obtain ⟨p3, cp3, rfl, _⟩ := ownsRow_slice hm3
      have HM3 := hide ((unhide HK3).marks (.slice p k cp, k) (by simp))
      have hsz3 := (unhide HK3).keeps.size
      clear hm3 hk3 hg3 hb3 HA3 HM2 HK2
      have d0 := (unhide HK3).head.cell 5 _ rfl
      have HB0 := hide (World.ownsRow.alloc (unhide HK3).row (.cells #[.slice p k cp] 62))
      go_wp2_with (at_builtin; refine wpList_append_own_at _ rfl _ _ 41 rfl 0 62 i1 _ 1 24 Tryz.underlying41 hi1 hy0 hy1 hy2 rfl (by decide) _ _ _ rfl (unhide HB0) ⟨w3.heap.size, 0, none⟩ 1 1 [.slice p k cp] rfl rfl ?p0c1 ?p0c2 ?p0c3 ?p0c4 ?p0c5 ?_)
      case p0c2 => first | rfl | (intro u hu; simp at hu; subst hu; rfl)
      case p0c3 => unfold maxLen; first | omega | (simp; omega)
      case p0c4 => first | omega | (simp; omega)
      intro b0 y0 hown0 hg0 _ hb0
      have hd0 := (unhide HK3).pushHead (by decide) hg0
      have e0 := hd0.cell 5 _ rfl
      have f0 := hd0.fz
      have HP0 : Hid (KInv WA X wb (y0.setCell ⟨wb, 5, none⟩ b0) #[hs, ss, cbs, cfs, cls, b0] 3 62 b0 (b.ei ++ [.slice p k cp]) (mkI b.ei.length) _) := (unhide HK3).push hX (by decide) (by decide) (by decide) (by simpa using hown0) hg0 hb0 (by omega) 5
      obtain ⟨bp0, bc0, rfl, _⟩ := ownsRow_slice hown0
      have hyz0 : WA.heap.size ≤ y0.heap.size := by have := (unhide HP0).keeps.size; rwa [size_setCell] at this
      clear hown0 hg0 hb0 hd0 d0 HB0 HK3
      have d1 := (unhide HP0).head.cell 5 _ rfl
      have HB1 := hide (World.ownsRow.alloc (unhide HP0).row (.cells #[.slice p1 (k + 1) cp1] 62))
      go_wp2_with (at_builtin; refine wpList_append_own_at _ rfl _ _ 41 rfl 0 62 i1 _ 1 24 Tryz.underlying41 hi1 hy0 hy1 hy2 rfl (by decide) _ _ _ rfl (unhide HB1) ⟨y0.heap.size, 0, none⟩ 1 1 [.slice p1 (k + 1) cp1] rfl rfl ?p1c1 ?p1c2 ?p1c3 ?p1c4 ?p1c5 ?_)
      case p1c1 => have q := news1 (y0.setCell ⟨wb, 5, none⟩ (.slice bp0 (b.ei.length + 1) bc0)) (.slice p1 (k + 1) cp1) 62; rw [size_setCell] at q; exact q
      case p1c5 => exact Nat.zero_le _
      case p1c2 => first | rfl | (intro u hu; simp at hu; subst hu; rfl)
      case p1c3 => unfold maxLen; first | omega | (simp; omega)
      case p1c4 => first | omega | (simp; omega)
      intro b1 y1 hown1 hg1 _ hb1
      have hd1 := (unhide HP0).pushHead (by decide) hg1
      have e1 := hd1.cell 5 _ rfl
      have f1 := hd1.fz
      have HP1 : Hid (KInv WA X wb (y1.setCell ⟨wb, 5, none⟩ b1) #[hs, ss, cbs, cfs, cls, b1] 3 62 b1 (b.ei ++ [.slice p k cp] ++ [.slice p1 (k + 1) cp1]) (mkI b.ei.length) _) := (unhide HP0).push hX (by decide) (by decide) (by decide) (by simpa using hown1) hg1 hb1 (by omega) 5
      obtain ⟨bp1, bc1, rfl, _⟩ := ownsRow_slice hown1
      have hyz1 : WA.heap.size ≤ y1.heap.size := by have := (unhide HP1).keeps.size; rwa [size_setCell] at this
      clear hown1 hg1 hb1 hd1 d1 HB1 HP0
      have d2 := (unhide HP1).head.cell 5 _ rfl
      have HB2 := hide (World.ownsRow.alloc (unhide HP1).row (.cells #[.slice p2 (k + 2) cp2] 62))
      go_wp2_with (at_builtin; refine wpList_append_own_at _ rfl _ _ 41 rfl 0 62 i1 _ 1 24 Tryz.underlying41 hi1 hy0 hy1 hy2 rfl (by decide) _ _ _ rfl (unhide HB2) ⟨y1.heap.size, 0, none⟩ 1 1 [.slice p2 (k + 2) cp2] rfl rfl ?p2c1 ?p2c2 ?p2c3 ?p2c4 ?p2c5 ?_)
      case p2c1 => have q := news1 (y1.setCell ⟨wb, 5, none⟩ (.slice bp1 (b.ei.length + 2) bc1)) (.slice p2 (k + 2) cp2) 62; rw [size_setCell] at q; exact q
      case p2c5 => exact Nat.zero_le _
      case p2c2 => first | rfl | (intro u hu; simp at hu; subst hu; rfl)
      case p2c3 => unfold maxLen; first | omega | (simp; omega)
      case p2c4 => first | omega | (simp; omega)
      intro b2 y2 hown2 hg2 _ hb2
      have hd2 := (unhide HP1).pushHead (by decide) hg2
      have e2 := hd2.cell 5 _ rfl
      have f2 := hd2.fz
      have HP2 : Hid (KInv WA X wb (y2.setCell ⟨wb, 5, none⟩ b2) #[hs, ss, cbs, cfs, cls, b2] 3 62 b2 (b.ei ++ [.slice p k cp] ++ [.slice p1 (k + 1) cp1] ++ [.slice p2 (k + 2) cp2]) (mkI b.ei.length) _) := (unhide HP1).push hX (by decide) (by decide) (by decide) (by simpa using hown2) hg2 hb2 (by omega) 5
      obtain ⟨bp2, bc2, rfl, _⟩ := ownsRow_slice hown2
      have hyz2 : WA.heap.size ≤ y2.heap.size := by have := (unhide HP2).keeps.size; rwa [size_setCell] at this
      clear hown2 hg2 hb2 hd2 d2 HB2 HP1
      have d3 := (unhide HP2).head.cell 5 _ rfl
      have HB3 := hide (World.ownsRow.alloc (unhide HP2).row (.cells #[.slice p3 (k + 3) cp3] 62))
      go_wp2_with (at_builtin; refine wpList_append_own_at _ rfl _ _ 41 rfl 0 62 i1 _ 1 24 Tryz.underlying41 hi1 hy0 hy1 hy2 rfl (by decide) _ _ _ rfl (unhide HB3) ⟨y2.heap.size, 0, none⟩ 1 1 [.slice p3 (k + 3) cp3] rfl rfl ?p3c1 ?p3c2 ?p3c3 ?p3c4 ?p3c5 ?_)
      case p3c1 => have q := news1 (y2.setCell ⟨wb, 5, none⟩ (.slice bp2 (b.ei.length + 3) bc2)) (.slice p3 (k + 3) cp3) 62; rw [size_setCell] at q; exact q
      case p3c5 => exact Nat.zero_le _
      case p3c2 => first | rfl | (intro u hu; simp at hu; subst hu; rfl)
      case p3c3 => unfold maxLen; first | omega | (simp; omega)
      case p3c4 => first | omega | (simp; omega)
      intro b3 y3 hown3 hg3 _ hb3
      have hd3 := (unhide HP2).pushHead (by decide) hg3
      have e3 := hd3.cell 5 _ rfl
      have f3 := hd3.fz
      have HP3 : Hid (KInv WA X wb (y3.setCell ⟨wb, 5, none⟩ b3) #[hs, ss, cbs, cfs, cls, b3] 3 62 b3 (b.ei ++ [.slice p k cp] ++ [.slice p1 (k + 1) cp1] ++ [.slice p2 (k + 2) cp2] ++ [.slice p3 (k + 3) cp3]) (mkI b.ei.length) _) := (unhide HP2).push hX (by decide) (by decide) (by decide) (by simpa using hown3) hg3 hb3 (by omega) 5
      obtain ⟨bp3, bc3, rfl, _⟩ := ownsRow_slice hown3
      have hyz3 : WA.heap.size ≤ y3.heap.size := by have := (unhide HP3).keeps.size; rwa [size_setCell] at this
      clear hown3 hg3 hb3 hd3 d3 HB3 HP2
      go_wp2
      have q := unhide HP3
      simp only [List.append_assoc, List.cons_append, List.nil_append] at q
      go_end0
      exact ⟨rfl, _, _, _, _, q⟩
end Go.Proofs.YtkalonhalhdlaaaGreatDoor

/-
  What one call of the book's keepsInts does to the book.
-/
namespace Go.Proofs.YtkalonhalhdlaaaGreatDoor
open Go.RowKit
theorem keepsInts_bk {w : World} {wb : Nat} {hs ss v : Value} {b : Bk} {xs : List Value} {n : Nat} (h : BkAt w wb hs ss b) (hv : w.ownsRow 0 3 1 v n xs) (hvb : ∀ k, v.ownBlock = some k → ¬ b.blk k) (hN : b.ei.length ≤ 1099511627776) (hn : n ≤ 1099511627000) :
    Calls Tryz.prog 50 #[.pointer (some ⟨wb, 2, none⟩), v] w fun e w' => e = .returned (.tuple #[]) ∧ ∃ b' : Bk, BkAt w' wb hs ss b' ∧ b'.ei.length = b.ei.length + 4 ∧ b'.eb = b.eb ∧ b'.ef = b.ef ∧ b'.el = b.el ∧ Keeps (turnB wb b.is v) w w' ∧ (∀ k, b'.blk k → b.blk k ∨ v.ownBlock = some k ∨ w.heap.size ≤ k) := by
  refine (keepsInts_any (turnB wb b.is v) (.inl rfl) (fun i hi => .inr (.inl hi.symm)) (fun i hi => .inr (.inr hi.symm)) h hv hN (by omega)).mono ?_
  rintro e w' ⟨rfl, is', v1, v2, v3, K⟩
  have his : ∀ k, is'.ownBlock = some k → b.is.ownBlock = some k ∨ w.heap.size ≤ k := by
    intro k hk
    rcases K.mineB k hk with (hx | hx | hx) | hx
    · exfalso
      obtain ⟨c, hc⟩ := ownsRow_isRow K.row hk
      have h3 := K.head
      unfold WAt at h3
      rw [← hx, hc] at h3
      simp at h3
    · exact .inl hx.symm
    · exfalso
      obtain ⟨c, hc⟩ := ownsRow_isRow K.row hk
      obtain ⟨c2, hc2⟩ := ownsRow_isRow (K.marks (v, n) (by simp)) (k := k) hx.symm
      rw [hc] at hc2
      simp at hc2
    · exact .inr hx
  have hmk : ∀ u : Value × Nat, u ∈ [(v, n), (v1, n + 1), (v2, n + 2), (v3, n + 3)] → ∀ k, u.1.ownBlock = some k → b.blk k ∨ v.ownBlock = some k ∨ w.heap.size ≤ k := by
    intro u hu k hk
    rcases K.mineU u hu k hk with (hx | hx | hx) | hx
    · exfalso
      obtain ⟨c, hc⟩ := ownsRow_isRow (K.marks u hu) hk
      have h3 := K.head
      unfold WAt at h3
      rw [← hx, hc] at h3
      simp at h3
    · exact .inl (.inr (.inr (.inr (.inl hx.symm))))
    · exact .inr (.inl hx.symm)
    · exact .inr (.inr hx)
  have hno : ∀ k, b.blk k → b.is.ownBlock ≠ some k → ¬ turnB wb b.is v k := by
    rintro k hk hne (rfl | hx | hx)
    · exact h.notHead hk
    · exact hne hx.symm
    · exact hvb k hx.symm hk
  have hty : ∀ {k : Nat} {c : Array Value} {t : TypeId}, w.heap[k]? = some (.cells c t (0, 0)) → t ≠ 62 → b.is.ownBlock ≠ some k := by
    intro k c t hc ht hk
    obtain ⟨c2, hc2⟩ := ownsRow_isRow h.ri hk
    rw [hc] at hc2
    simp at hc2
    exact ht hc2.2
  have hrow : ∀ {k : Nat} {t : TypeId} {sz m : Nat} {u : Value} {ys : List Value}, w.ownsRow 0 t sz u m ys → u.ownBlock = some k → t ≠ 62 → b.is.ownBlock ≠ some k := by
    intro k t sz m u ys hr hk ht
    obtain ⟨c, hc⟩ := ownsRow_isRow hr hk
    exact hty hc ht
  refine ⟨rfl, ⟨b.bs, b.fs, b.ls, is', b.eb, b.ef, b.el, b.ei ++ [v, v1, v2, v3], b.mg⟩, ⟨K.head, ?_, ?_, ?_, K.row, ?_, ?_, ?_, ?_, ?_, h.fb, h.ff, h.fl, ?_, h.apart⟩, by simp, rfl, rfl, rfl, K.keeps, ?_⟩
  · exact ownsRow_keepsB h.rb K.keeps fun k e => hno k (.inl e) (hrow h.rb e (by decide))
  · exact ownsRow_keepsB h.rf K.keeps fun k e => hno k (.inr (.inl e)) (hrow h.rf e (by decide))
  · exact ownsRow_keepsB h.rl K.keeps fun k e => hno k (.inr (.inr (.inl e))) (hrow h.rl e (by decide))
  · intro i u hi
    obtain ⟨m, hm, hm2⟩ := h.mb i u hi
    exact ⟨m, ownsRow_keepsB hm K.keeps fun k e => hno k (.inr (.inr (.inr (.inr (.inl ⟨u, mem_of_get hi, e⟩))))) (hrow hm e (by decide)), hm2⟩
  · intro i u hi
    obtain ⟨m, hm, hm2⟩ := h.mf i u hi
    exact ⟨m, ownsRow_keepsB hm K.keeps fun k e => hno k (.inr (.inr (.inr (.inr (.inr (.inl ⟨u, mem_of_get hi, e⟩)))))) (hrow hm e (by decide)), hm2⟩
  · intro i u hi
    obtain ⟨m, hm, hm2⟩ := h.ml i u hi
    exact ⟨m, ownsRow_keepsB hm K.keeps fun k e => hno k (.inr (.inr (.inr (.inr (.inr (.inr (.inl ⟨u, mem_of_get hi, e⟩))))))) (hrow hm e (by decide)), hm2⟩
  · intro i u hi
    rcases get_four hi with ⟨hlt, hi⟩ | ⟨j, hj, rfl, hi⟩
    · obtain ⟨m, hm, hm2⟩ := h.mi i u hi
      exact ⟨m, ownsRow_keepsB hm K.keeps fun k e => hno k (.inr (.inr (.inr (.inr (.inr (.inr (.inr (.inl ⟨u, mem_of_get hi, e⟩)))))))) (hrow hm e (by decide)), hm2⟩
    · rw [mkI_four h.fi j hj]
      have hc : j = 0 ∨ j = 1 ∨ j = 2 ∨ j = 3 := by omega
      rcases hc with rfl | rfl | rfl | rfl <;> (simp at hi; subst hi)
      · exact ⟨n, K.marks (v, n) (by simp), by omega⟩
      · exact ⟨n + 1, K.marks (v1, n + 1) (by simp), by omega⟩
      · exact ⟨n + 2, K.marks (v2, n + 2) (by simp), by omega⟩
      · exact ⟨n + 3, K.marks (v3, n + 3) (by simp), by omega⟩
  · intro i hi
    have ht := h.two i hi
    unfold TwoAt at ht ⊢
    rw [K.keeps.block _ (Array.getElem?_eq_some_iff.1 ht).1 (hno _ (.inr (.inr (.inr (.inr (.inr (.inr (.inr (.inr ⟨i, hi, rfl⟩)))))))) (hty ht (by decide)))]
    exact ht
  · have := h.fi
    simp
    omega
  · intro k hk
    rcases hk with hk | hk | hk | hk | hk | hk | hk | ⟨u, hu, hk⟩ | hk
    · exact .inl (.inl hk)
    · exact .inl (.inr (.inl hk))
    · exact .inl (.inr (.inr (.inl hk)))
    · rcases his k hk with hx | hx
      · exact .inl (.inr (.inr (.inr (.inl hx))))
      · exact .inr (.inr hx)
    · exact .inl (.inr (.inr (.inr (.inr (.inl hk)))))
    · exact .inl (.inr (.inr (.inr (.inr (.inr (.inl hk))))))
    · exact .inl (.inr (.inr (.inr (.inr (.inr (.inr (.inl hk)))))))
    · rcases mem_four hu with hu | rfl | rfl | rfl | rfl
      · exact .inl (.inr (.inr (.inr (.inr (.inr (.inr (.inr (.inl ⟨u, hu, hk⟩))))))))
      · exact hmk (u, n) (by simp) k hk
      · exact hmk (u, n + 1) (by simp) k hk
      · exact hmk (u, n + 2) (by simp) k hk
      · exact hmk (u, n + 3) (by simp) k hk
    · exact .inl (.inr (.inr (.inr (.inr (.inr (.inr (.inr (.inr hk))))))))
end Go.Proofs.YtkalonhalhdlaaaGreatDoor
