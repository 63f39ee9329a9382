/-
  What one step that writes a frame does to the law's World.
-/
import Derived.Test.YtkalonhalhdlaaaGreatDoorRSame
import Derived.Test.YtkalonhalhdlaaaGreatDoorVGws
import Derived.Test.YtkalonhalhdlaaaGreatDoorVMath
namespace Go.Proofs.YtkalonhalhdlaaaGreatDoor
open Go.RowKit

/-- A step of a script, as it lies in memory. -/
structure OpV where
  kind : Int
  a : Int
  b : Int
  d : Int
  s : ByteArray
  lv : Value
  f : Fr
  fq : Option Addr
  fc : Nat
  c0 : Int
  c1 : Int
  c2 : Int
  c3 : Int
  c4 : Int
  c5 : Int

/-- As a value. -/
def opV (o : OpV) : Value := .agg #[.int .i64 o.kind, .int .i64 o.a, .int .i64 o.b, .int .i64 o.d, .string o.s, o.lv, .int .i64 o.f.a, .int .i64 o.f.k, .bool o.f.p, .int .i64 o.f.ns, .int .i64 o.f.nr, .slice o.fq o.f.info.length o.fc, .int .i64 o.c0, .int .i64 o.c1, .int .i64 o.c2, .int .i64 o.c3, .int .i64 o.c4, .int .i64 o.c5]
/-- As cells. -/
def opCells (o : OpV) : List Value := [.int .i64 o.kind, .int .i64 o.a, .int .i64 o.b, .int .i64 o.d, .string o.s, o.lv, .int .i64 o.f.a, .int .i64 o.f.k, .bool o.f.p, .int .i64 o.f.ns, .int .i64 o.f.nr, .slice o.fq o.f.info.length o.fc, .int .i64 o.c0, .int .i64 o.c1, .int .i64 o.c2, .int .i64 o.c3, .int .i64 o.c4, .int .i64 o.c5]

theorem ctlL_len (m k ns nr : Nat) (p : Bool) : (ctlL m k ns nr p).length ≤ 2 := by
  unfold ctlL
  split <;> simp
theorem writeL_len (m : Int) (f : Fr) : (writeL m f).2.length ≤ 100 := by
  unfold writeL
  split
  · simp
  · split
    · simp
    · split
      · simp
      · rename_i h
        have h2 := ctlL_len m.toNat f.k.toNat f.ns.toNat f.nr.toNat f.p
        have h3 : f.info.length ≤ 32 := by
          unfold infoF repN at h
          by_cases hk1 : f.k = 1
          · rw [if_pos hk1] at h; simp at h; omega
          · rw [if_neg hk1] at h
            by_cases hk9 : f.k = 9
            · rw [if_pos hk9] at h
              by_cases hm8 : m = 8
              · rw [if_pos hm8] at h; simp at h; omega
              · rw [if_neg hm8] at h; simp at h; omega
            · rw [if_neg hk9] at h; simp at h; simp [h]
        simp
        omega

set_option maxHeartbeats 4000000 in
set_option maxRecDepth 100000 in
theorem framed_write (B wb : Nat) (hs ss fs ls is bs : Value) (ents : List Value) (o : OpV) (lp : Option Addr) (ln lc : Nat) (w : World) (hlv : o.lv = .slice lp ln lc) (h10 : o.kind = 10) (hsrc : SrcE w o.fq o.f.info) (hC : Ctl w) (hBk : BookB B w wb hs ss fs ls is bs ents) (hB0 : 0 < B) (hB : B ≤ w.heap.size) (hN : ents.length ≤ 1099511627776) (hl : o.f.info.length ≤ 1048576) :
    Calls Tryz.prog 17 #[.pointer (some ⟨wb, 0, none⟩), opV o] w fun e w' => e = .returned (.bool true) ∧ ∃ bs' ents', BookB B w' wb hs ss fs ls is bs' ents' ∧ ents'.length = ents.length + 4 ∧ Below B w w' := by
  obtain ⟨kind, a, b, d, s, lv, ⟨fa, fk, fp, fns, fnr, info⟩, fq, fc, x0, x1, x2, x3, x4, x5⟩ := o
  simp only at hlv h10 hsrc hl
  subst h10 hlv
  unfold opV
  simp only
  have hb2 : ∀ o1 o2, Below w.heap.size w ((w.alloc o1).alloc o2) := fun o1 o2 => ((Below.refl _ w).alloc (Nat.le_refl _) o1).alloc (by simp) o2
  have v1 := fun o1 o2 => (hsrc.below (hb2 o1 o2) (Nat.le_refl _)).conv fc
  have hsz : (⟨info.toArray⟩ : ByteArray).size ≤ 1099511627776 := by simp [ByteArray.size]; omega
  have HB2 := hide hb2
  have HSRC := hide hsrc
  have HC := hide hC
  have HBK := hide hBk
  clear hb2 hsrc hC hBk
  go_enter Tryz.func17, Tryz.ntmps17
  go_wp2_with fail
  generalize Value.agg #[.int .i64 10, .int .i64 a, .int .i64 b, .int .i64 d, .string s, .slice lp ln lc, .int .i64 fa, .int .i64 fk, .bool fp, .int .i64 fns, .int .i64 fnr, .slice fq info.length fc, .int .i64 x0, .int .i64 x1, .int .i64 x2, .int .i64 x3, .int .i64 x4, .int .i64 x5] = ov
  generalize Value.agg #[.int .i64 fa, .int .i64 fk, .bool fp, .int .i64 fns, .int .i64 fnr, .slice fq info.length fc] = ov2
  refine (lent_any ⟨info.toArray⟩ b _ hsz).mono ?_
  rintro e W3 ⟨p, c, rfl, hlent, hb3⟩
  have hsl : (⟨info.toArray⟩ : ByteArray).size = info.length := by simp [ByteArray.size]
  rw [hsl]
  have hO3 : W3.heap[w.heap.size]? = some (.cells #[.int .i64 10, .int .i64 a, .int .i64 b, .int .i64 d, .string s, .slice lp ln lc, .int .i64 fa, .int .i64 fk, .bool fp, .int .i64 fns, .int .i64 fnr, .slice fq info.length fc, .int .i64 x0, .int .i64 x1, .int .i64 x2, .int .i64 x3, .int .i64 x4, .int .i64 x5] 34 (0, 0)) := by
    rw [hb3.block w.heap.size (by simp; omega)]
    rw [Below.heap_alloc _ _ _ (by simp)]
    exact alloc1_a w _
  have hX3 : W3.heap[w.heap.size + 1]? = some (.cells #[.int .i64 fa, .int .i64 fk, .bool fp, .int .i64 fns, .int .i64 fnr, .slice fq info.length fc] 30 (0, 0)) := by
    rw [hb3.block (w.heap.size + 1) (by simp)]
    have := alloc1_a (w.alloc (.cells #[.int .i64 10, .int .i64 a, .int .i64 b, .int .i64 d, .string s, .slice lp ln lc, .int .i64 fa, .int .i64 fk, .bool fp, .int .i64 fns, .int .i64 fnr, .slice fq info.length fc, .int .i64 x0, .int .i64 x1, .int .i64 x2, .int .i64 x3, .int .i64 x4, .int .i64 x5] 34)) (.cells #[.int .i64 fa, .int .i64 fk, .bool fp, .int .i64 fns, .int .i64 fnr, .slice fq info.length fc] 30)
    rwa [alloc1_s] at this
  have hz3 : w.heap.size + 2 ≤ W3.heap.size := by have := hb3.size; simp at this; omega
  have hb03 : Below w.heap.size w W3 := (unhide HB2 _ _).trans (hb3.mono (by simp; omega))
  rw [alloc2_s] at hlent
  obtain ⟨W4, hW4⟩ : ∃ W4, W4 = W3.setCell ⟨w.heap.size + 1, 5, none⟩ (.slice p info.length c) := ⟨_, rfl⟩
  have hX4 : W4.heap[w.heap.size + 1]? = some (.cells #[.int .i64 fa, .int .i64 fk, .bool fp, .int .i64 fns, .int .i64 fnr, .slice p info.length c] 30 (0, 0)) := by
    rw [hW4]
    exact block_set hX3 _
  have hO4 : W4.heap[w.heap.size]? = some (.cells #[.int .i64 10, .int .i64 a, .int .i64 b, .int .i64 d, .string s, .slice lp ln lc, .int .i64 fa, .int .i64 fk, .bool fp, .int .i64 fns, .int .i64 fnr, .slice fq info.length fc, .int .i64 x0, .int .i64 x1, .int .i64 x2, .int .i64 x3, .int .i64 x4, .int .i64 x5] 34 (0, 0)) := by
    rw [hW4, Below.heap_setCell _ _ _ _ (by simp)]
    exact hO3
  have hb04 : Below w.heap.size w W4 := by rw [hW4]; exact hb03.setCell (by show w.heap.size ≤ w.heap.size + 1; omega) _
  have hz4 : W4.heap.size = W3.heap.size := by rw [hW4]; exact size_setCell _ _ _
  have hlent4 : LentAt W4 (w.heap.size + 2) p c ⟨info.toArray⟩ := by
    rcases hlent with h | ⟨g, h1, h2, h3, h4⟩
    · exact .inl h
    · refine .inr ⟨g, h1, h2, h3, ?_⟩
      unfold RowIs
      rw [hW4, Below.heap_setCell _ _ _ _ (by show g ≠ w.heap.size + 1; omega)]
      exact h4
  have a3 : W3.cell? ⟨w.heap.size, 1, none⟩ = some (.int .i64 a) := by rw [Lib.cell_of_heap hO3]; rfl
  have a4 : W4.cell? ⟨w.heap.size, 1, none⟩ = some (.int .i64 a) := by rw [Lib.cell_of_heap hO4]; rfl
  have s3 : W3.cell? ⟨w.heap.size + 1, 5, none⟩ = some (.slice fq info.length fc) := by rw [Lib.cell_of_heap hX3]; rfl
  have sf : ∀ i, W3.frozen? ⟨w.heap.size + 1, i, none⟩ = false := fun i => Lib.frozen_of_heap hX3 i
  have y0 : W4.cell? ⟨w.heap.size + 1, 0, none⟩ = some (.int .i64 fa) := by rw [Lib.cell_of_heap hX4]; rfl
  have y1 : W4.cell? ⟨w.heap.size + 1, 1, none⟩ = some (.int .i64 fk) := by rw [Lib.cell_of_heap hX4]; rfl
  have y2 : W4.cell? ⟨w.heap.size + 1, 2, none⟩ = some (.bool fp) := by rw [Lib.cell_of_heap hX4]; rfl
  have y3 : W4.cell? ⟨w.heap.size + 1, 3, none⟩ = some (.int .i64 fns) := by rw [Lib.cell_of_heap hX4]; rfl
  have y4 : W4.cell? ⟨w.heap.size + 1, 4, none⟩ = some (.int .i64 fnr) := by rw [Lib.cell_of_heap hX4]; rfl
  have y5 : W4.cell? ⟨w.heap.size + 1, 5, none⟩ = some (.slice p info.length c) := by rw [Lib.cell_of_heap hX4]; rfl
  rw [hW4] at a4 y0 y1 y2 y3 y4 y5
  have HH := hide (And.intro hO4 (And.intro hX4 (And.intro hlent4 (And.intro hb04 hz4))))
  clear hO3 hX3 hb3 hlent hO4 hX4 hlent4 hb04 hz4 v1 hsl
  go_wp2_with fail
  rw [← hW4]
  clear a3 s3 sf a4 y0 y1 y2 y3 y4 y5
  obtain ⟨hO4, hX4, hlent4, hb04, hz4⟩ := unhide HH
  clear HH
  have hw1 := write_any a ⟨fa, fk, fp, fns, fnr, info⟩ p c W4 ((unhide HC).below hb04 (by omega)) (by omega) (by simpa using hlent4.src)
  unfold frV at hw1
  simp only at hw1
  refine hw1.mono ?_
  clear hw1
  generalize hwl : writeL a ⟨fa, fk, fp, fns, fnr, info⟩ = wl
  rintro e W5 ⟨v, rfl, hown, hnil, hb5⟩
  generalize Value.agg #[.int .i64 fa, .int .i64 fk, .bool fp, .int .i64 fns, .int .i64 fnr, .slice p info.length c] = ov3
  have hO5 := (hb5.block w.heap.size (by omega)).trans hO4
  have hX5 := (hb5.block (w.heap.size + 1) (by omega)).trans hX4
  have hlent5 := hlent4.below hb5
  have hpl : ∀ i, some i = p.map (·.block) → i < W4.heap.size := by
    intro i hi
    rcases hlent4 with ⟨rfl, _⟩ | ⟨g, rfl, _, _, h4⟩
    · simp at hi
    · simp at hi
      subst hi
      exact h4.lt
  have hb05 : Below w.heap.size w W5 := hb04.trans (hb5.mono (by omega))
  have v5 := ((unhide HSRC).below hb05 (Nat.le_refl _)).conv fc
  have i5 : W5.cell? ⟨w.heap.size, 11, none⟩ = some (.slice fq info.length fc) := by rw [Lib.cell_of_heap hO5]; rfl
  have x5c : W5.cell? ⟨w.heap.size + 1, 5, none⟩ = some (.slice p info.length c) := by rw [Lib.cell_of_heap hX5]; rfl
  have hz5 := hb5.size
  have HH := hide (And.intro hO5 (And.intro hlent5 (And.intro hb05 (And.intro hown hnil))))
  clear hO4 hX4 hlent4 hb04 hb5 hO5 hX5 hlent5 hb05 hown hnil
  obtain ⟨q1, cp1, rfl⟩ := own_slice (unhide HH).2.2.2.1
  go_wp2_with fail
  obtain ⟨hO5, hlent5, hb05, hown, hnil⟩ := unhide HH
  clear HH v5 i5 x5c
  have hsl : info.length = (⟨info.toArray⟩ : ByteArray).size := by simp [ByteArray.size]
  have hwh := whole_any hlent5 hsz
  rw [← hsl] at hwh
  refine hwh.mono ?_
  clear hwh hsl
  rintro e W6 ⟨rfl, hk6, hp6⟩
  dsimp only
  have hz6 := hk6.size
  have hO6 := (hk6.block w.heap.size (by omega) (fun hi => by have := (hp6 _ hi).1; omega)).trans hO5
  have hb06 : Below w.heap.size w W6 := ⟨hk6.os.trans hb05.os, hk6.tape.trans hb05.tape, hk6.output.trans hb05.output, Nat.le_trans hb05.size hk6.size, fun k hk => (hk6.block k (by omega) (fun hi => by have := (hp6 _ hi).1; omega)).trans (hb05.block k hk)⟩
  have hown6 : W6.ownsRow W4.heap.size 5 1 (.slice q1 wl.2.length cp1) wl.2.length (Lib.byteCells wl.2) := by
    rcases hown.2 with h2 | ⟨g, cap, cur, e1, e2, e3, e4⟩
    · exact ⟨hown.1, .inl h2⟩
    · refine ⟨hown.1, .inr ⟨g, cap, cur, e1, e2, ?_, e4⟩⟩
      rw [hk6.block g (Array.getElem?_eq_some_iff.1 e3).1 (fun hi => ?_)]
      · exact e3
      · have := hpl g hi
        omega
  have o1 : W6.cell? ⟨w.heap.size, 1, none⟩ = some (.int .i64 a) := by rw [Lib.cell_of_heap hO6]; rfl
  have o6 : W6.cell? ⟨w.heap.size, 6, none⟩ = some (.int .i64 fa) := by rw [Lib.cell_of_heap hO6]; rfl
  have o7 : W6.cell? ⟨w.heap.size, 7, none⟩ = some (.int .i64 fk) := by rw [Lib.cell_of_heap hO6]; rfl
  have o8 : W6.cell? ⟨w.heap.size, 8, none⟩ = some (.bool fp) := by rw [Lib.cell_of_heap hO6]; rfl
  have o9 : W6.cell? ⟨w.heap.size, 9, none⟩ = some (.int .i64 fns) := by rw [Lib.cell_of_heap hO6]; rfl
  have o10 : W6.cell? ⟨w.heap.size, 10, none⟩ = some (.int .i64 fnr) := by rw [Lib.cell_of_heap hO6]; rfl
  have o11 : W6.cell? ⟨w.heap.size, 11, none⟩ = some (.slice fq info.length fc) := by rw [Lib.cell_of_heap hO6]; rfl
  have hw2 := refWrite_any a ⟨fa, fk, fp, fns, fnr, info⟩ fq fc W6 ((unhide HSRC).below hb06 (Nat.le_refl _))
  unfold frV at hw2
  rw [hwl] at hw2
  simp only at hw2
  have HW2 := hide hw2
  clear hw2
  have HH := hide (And.intro hb06 (And.intro hown6 hnil))
  clear hO5 hlent5 hb05 hown hnil hk6 hp6 hO6 hb06 hown6 hpl
  go_wp2_with fail
  obtain ⟨hb06, hown6, hnil⟩ := unhide HH
  clear HH o1 o6 o7 o8 o9 o10 o11
  refine (unhide HW2).mono ?_
  clear HW2
  rintro e W7 ⟨v2, rfl, hown2, _, hb7⟩
  obtain ⟨q2, cp2, rfl⟩ := own_slice hown2
  have hb07 : Below w.heap.size w W7 := hb06.trans (hb7.mono (by omega))
  have hown7 := ownsRow_below hown6 hb7
  have r1 := (own_src hown7 rfl).conv cp1
  have r2 := (own_src hown2 rfl).conv cp2
  have hq := bytes_eql_nil q1 wl.2.length cp1
  have hlen : wl.2.length ≤ 100 := by rw [← hwl]; exact writeL_len _ _
  have hkb := keeps_book (unhide HBK) hb07 (ownsRow_mono hown7 (by omega)) hB hN (by omega)
  have hn : q1.isNone = true ∨ wl.1 = 0 := by
    by_cases h : wl.1 = 0
    · exact .inr h
    · have := hnil h
      simp only [Value.slice.injEq] at this
      exact .inl (by rw [this.1]; rfl)
  have HKB := hide hkb
  have HB7 := hide hb07
  clear hkb hb07 hown7 hown2 hown6 hnil hb06 hb7
  obtain ⟨en, ws⟩ := wl
  simp only at hn r1 r2 hq hlen HKB
  rcases hn with hn | hn
  · rw [hn] at hq
    go_wp2_with fail
    refine (unhide HKB).mono ?_
    rintro e W8 ⟨rfl, bs', ents', hbk, hlen8, hb8⟩
    have HF := hide (And.intro hbk (And.intro hlen8 hb8))
    clear hbk hlen8 hb8 HKB
    dsimp only
    go_wp2
    obtain ⟨hbk, hlen8, hb8⟩ := unhide HF
    exact bodyPost_ret (v := .bool true) (by simp [results, Tryz.results17, go_sem]) rfl ⟨rfl, bs', ents', hbk, hlen8, ((unhide HB7).mono hB).trans hb8⟩
  · subst hn
    cases q1 with
    | none =>
      go_wp2_with fail
      refine (unhide HKB).mono ?_
      rintro e W8 ⟨rfl, bs', ents', hbk, hlen8, hb8⟩
      have HF := hide (And.intro hbk (And.intro hlen8 hb8))
      clear hbk hlen8 hb8 HKB
      dsimp only
      go_wp2
      obtain ⟨hbk, hlen8, hb8⟩ := unhide HF
      exact bodyPost_ret (v := .bool true) (by simp [results, Tryz.results17, go_sem]) rfl ⟨rfl, bs', ents', hbk, hlen8, ((unhide HB7).mono hB).trans hb8⟩
    | some ad =>
      go_wp2_with fail
      refine (unhide HKB).mono ?_
      rintro e W8 ⟨rfl, bs', ents', hbk, hlen8, hb8⟩
      have HF := hide (And.intro hbk (And.intro hlen8 hb8))
      clear hbk hlen8 hb8 HKB
      dsimp only
      go_wp2
      obtain ⟨hbk, hlen8, hb8⟩ := unhide HF
      exact bodyPost_ret (v := .bool true) (by simp [results, Tryz.results17, go_sem]) rfl ⟨rfl, bs', ents', hbk, hlen8, ((unhide HB7).mono hB).trans hb8⟩
end Go.Proofs.YtkalonhalhdlaaaGreatDoor
