import Derived.Test.YtkalonhalhdlaaaGreatDoorRows
import Derived.Test.YtkalonhalhdlaaaGreatDoorRPlayed
import Derived.ProofKit
import Derived.LaidMore
import Derived.OpenShut
import Derived.ShutString
import Derived.ChangeOld
import Derived.SliceStrings
/-
  Opening a list of steps out of its datum.
-/
namespace Go.Proofs.YtkalonhalhdlaaaGreatDoor
open Go.ChangeShapes Go.WideShapes Go.ChangeAt Go.RowKit
theorem opsCells_len : ∀ os : List OpV, (opsCells os).length = os.length * 18 := by
  intro os
  induction os with
  | nil => rfl
  | cons p ps ih =>
    have e : opsCells (p :: ps) = opCells p ++ opsCells ps := rfl
    rw [e, List.length_append, ih, opCells_len, List.length_cons]
    omega
def I64 (x : Int) : Prop := -9223372036854775808 ≤ x ∧ x ≤ 9223372036854775807
theorem bulk_one {H : Type} (d : DataW H) : 1 ≤ Rows.uptoBulk d := by
  cases d with
  | lit l => cases l <;> simp [Rows.uptoBulk]
  | nil => simp [Rows.uptoBulk]
  | ptr d => simp [Rows.uptoBulk]
  | slice a b => simp [Rows.uptoBulk]
  | agg l => simp [Rows.uptoBulk]
  | iface t d => simp [Rows.uptoBulk]
  | map e => simp [Rows.uptoBulk]
  | held h => simp [Rows.uptoBulk]
theorem bulk_part {H : Type} {d : DataW H} : ∀ {l : List (DataW H)}, d ∈ l → Rows.uptoBulk d ≤ Rows.uptoBulkAll l := by
  intro l
  induction l with
  | nil => intro h; simp at h
  | cons x r ih =>
    intro h
    unfold Rows.uptoBulkAll
    rcases List.mem_cons.1 h with rfl | h
    · omega
    · have := ih h
      omega
theorem bulk_length {H : Type} : ∀ (l : List (DataW H)), l.length ≤ Rows.uptoBulkAll l := by
  intro l
  induction l with
  | nil => simp
  | cons x r ih =>
    unfold Rows.uptoBulkAll
    have := bulk_one x
    simp only [List.length_cons]
    omega
/-- Texts in memory. -/
def TextsIn (w : World) (N : Nat) (v : Value) : Prop := v = .slice none 0 0 ∨ ∃ (a : Addr) (len cap : Nat), v = .slice (some a) len cap ∧ len ≤ cap ∧ cap ≤ maxLen ∧ len ≤ N ∧ (len = 0 ∨ (a.spot = none ∧ a.block < w.heap.size)) ∧ ∀ i, i < len → ∃ s : ByteArray, w.cell? ⟨a.block, a.off + i, none⟩ = some (.string s) ∧ s.size ≤ N
/-- What a step's parts are, of bulk at most N. -/
structure OpIn (w : World) (N : Nat) (o : OpV) : Prop where
  nums : I64 o.kind ∧ I64 o.a ∧ I64 o.b ∧ I64 o.d ∧ I64 o.f.a ∧ I64 o.f.k ∧ I64 o.f.ns ∧ I64 o.f.nr ∧ I64 o.c0 ∧ I64 o.c1 ∧ I64 o.c2 ∧ I64 o.c3 ∧ I64 o.c4 ∧ I64 o.c5
  s : o.s.size ≤ N
  lv : TextsIn w N o.lv
  src : SrcE w o.fq o.f.info
  info : o.f.info.length ≤ N
  fc : o.f.info.length ≤ o.fc ∧ o.fc ≤ maxLen
theorem list6 {α : Type} {l : List α} (h : l.length = 6) : ∃ a b c d e f, l = [a, b, c, d, e, f] := by
  match l, h with
  | [a, b, c, d, e, f], _ => exact ⟨a, b, c, d, e, f, rfl⟩
theorem list8 {α : Type} {l : List α} (h : l.length = 8) : ∃ a b c d e f g i, l = [a, b, c, d, e, f, g, i] := by
  match l, h with
  | [a, b, c, d, e, f, g, i], _ => exact ⟨a, b, c, d, e, f, g, i, rfl⟩
theorem list18 {α : Type} {l : List α} (h : l.length = 18) : ∃ a0 a1 a2 a3 a4 a5 a6 a7 a8 a9 a10 a11 a12 a13 a14 a15 a16 a17, l = [a0, a1, a2, a3, a4, a5, a6, a7, a8, a9, a10, a11, a12, a13, a14, a15, a16, a17] := by
  match l, h with
  | [a0, a1, a2, a3, a4, a5, a6, a7, a8, a9, a10, a11, a12, a13, a14, a15, a16, a17], _ => exact ⟨a0, a1, a2, a3, a4, a5, a6, a7, a8, a9, a10, a11, a12, a13, a14, a15, a16, a17, rfl⟩
theorem cInt : Tryz.prog.cellsOf 3 = 1 := by kernel_rfl
theorem cBool : Tryz.prog.cellsOf 4 = 1 := by kernel_rfl
theorem cStr : Tryz.prog.cellsOf 9 = 1 := by kernel_rfl
theorem cU8 : Tryz.prog.cellsOf 5 = 1 := by kernel_rfl
theorem cBytes : Tryz.prog.cellsOf 28 = 1 := by kernel_rfl
theorem cTexts : Tryz.prog.cellsOf 27 = 1 := by kernel_rfl
theorem cFrame : Tryz.prog.cellsOf 30 = 6 := by kernel_rfl
theorem cConfig : Tryz.prog.cellsOf 32 = 6 := by kernel_rfl
theorem cOp : Tryz.prog.cellsOf 34 = 18 := by kernel_rfl
section
variable {H : Type} {enc : TypeId × Value → H} {w : World} {base : Nat} {sp : Nat → Bool} {held : Bool}
theorem trod_i64 {fuel : Nat} {c : Value} {x : DataW H × List MemPlace} (h : DataW.trod enc Tryz.prog w base sp held fuel 3 [c] = some x) : ∃ n, c = .int .i64 n ∧ I64 n := by
  obtain ⟨k, e1, _, e3⟩ := DataW.trod_int Tryz.underlying3 h
  simp at e1
  exact ⟨k, e1, bounds_i64 e3⟩
theorem open_info {fuel : Nat} {c : Value} {x : DataW H × List MemPlace} (h : DataW.trod enc Tryz.prog w base sp held fuel 28 [c] = some x) : ∃ q l fc, c = .slice q (List.length l) fc ∧ SrcE w q l ∧ l.length ≤ Rows.uptoBulk x.1 ∧ l.length ≤ fc ∧ fc ≤ maxLen := by
  rcases open_ints Tryz.underlying28 Tryz.underlying5 cU8 h with ⟨hcs, rfl⟩ | ⟨a, len, cap, zs, hcs, _, hl, hm, hz, rfl, hcell, hwf⟩
  · simp at hcs
    exact ⟨none, [], 0, hcs, .inl ⟨rfl, rfl⟩, by simp, by simp, by simp [maxLen]⟩
  · simp at hcs
    subst hcs
    have hz' : len ≤ zs.length := by rw [hz]; split <;> omega
    have hll : ((zs.take len).map (fun n => UInt8.ofNat n.toNat)).length = len := by rw [List.length_map, List.length_take]; omega
    refine ⟨some a, (zs.take len).map (fun n => UInt8.ofNat n.toNat), cap, by rw [hll], ?_, ?_, by omega, hm⟩
    · by_cases h0 : len = 0
      · have e0 : (zs.take len).map (fun n => UInt8.ofNat n.toNat) = [] := List.length_eq_zero_iff.1 (by omega)
        rw [e0]
        exact .inr ⟨a, rfl, fun j u hj => by simp [Lib.byteCells] at hj⟩
      · refine SrcIs.e (.inr ?_)
        obtain ⟨b, off, spot⟩ := a
        have hc := hcell 0 (by omega)
        have hspot : spot = none := by simpa [Addr.add] using World.cell?_spot hc
        subst hspot
        rw [add_plain] at hc
        refine ⟨b, off, rfl, block_lt_of_cell hc, fun i hi => ?_⟩
        have hci := hcell i (by omega)
        rw [add_plain] at hci
        rw [hci]
        have hiz : i < zs.length := by omega
        have hw := hwf (zs.getD i 0) (by rw [List.getD_eq_getElem?_getD, List.getElem?_eq_getElem hiz]; exact List.getElem_mem hiz)
        have hb := bounds_u8 hw
        have e1 : zs.getD i 0 = zs[i] := by rw [List.getD_eq_getElem?_getD, List.getElem?_eq_getElem hiz]; rfl
        have e2 : ((zs.take len).map (fun n => UInt8.ofNat n.toNat)).getD i 0 = UInt8.ofNat (zs[i]).toNat := by
          rw [List.getD_eq_getElem?_getD, List.getElem?_map, List.getElem?_take_of_lt (by omega), List.getElem?_eq_getElem hiz]
          rfl
        rw [e1] at hb ⊢
        rw [e2]
        have e3 : (UInt8.ofNat (zs[i]).toNat).toNat = (zs[i]).toNat := by rw [UInt8.toNat_ofNat']; omega
        rw [e3]
        have e4 : ((zs[i]).toNat : Int) = zs[i] := by omega
        rw [e4]
    · show _ ≤ Rows.uptoBulkAll _ + Rows.uptoBulkAll _ + 1
      have := bulk_length (lits (H := H) .u8 (zs.take len))
      have e : (lits (H := H) .u8 (zs.take len)).length = len := by simp [lits, List.length_take]; omega
      omega
theorem open_frame {fuel : Nat} {cs : List Value} {x : DataW H × List MemPlace} (h : DataW.trod enc Tryz.prog w base sp held fuel 30 cs = some x) : ∃ (f : Fr) (q : Option Addr) (fc : Nat), cs = [.int .i64 f.a, .int .i64 f.k, .bool f.p, .int .i64 f.ns, .int .i64 f.nr, .slice q f.info.length fc] ∧ I64 f.a ∧ I64 f.k ∧ I64 f.ns ∧ I64 f.nr ∧ SrcE w q f.info ∧ f.info.length ≤ Rows.uptoBulk x.1 ∧ f.info.length ≤ fc ∧ fc ≤ maxLen := by
  obtain ⟨xs, n, _, hx, hl, hlen, hf⟩ := DataW.trod_struct Tryz.underlying30 h
  rw [cFrame] at hl
  have hx6 : xs.length = 6 := hlen
  obtain ⟨c0, c1, c2, c3, c4, c5, rfl⟩ := list6 hl
  obtain ⟨x0, x1, x2, x3, x4, x5, rfl⟩ := list6 hx6
  have h0 : DataW.trod enc Tryz.prog w base sp held n 3 (([c0, c1, c2, c3, c4, c5].drop 0).take (Tryz.prog.cellsOf 3)) = some x0 := hf 0 _ rfl
  have h1 : DataW.trod enc Tryz.prog w base sp held n 3 (([c0, c1, c2, c3, c4, c5].drop 1).take (Tryz.prog.cellsOf 3)) = some x1 := hf 1 _ rfl
  have h2 : DataW.trod enc Tryz.prog w base sp held n 4 (([c0, c1, c2, c3, c4, c5].drop 2).take (Tryz.prog.cellsOf 4)) = some x2 := hf 2 _ rfl
  have h3 : DataW.trod enc Tryz.prog w base sp held n 3 (([c0, c1, c2, c3, c4, c5].drop 3).take (Tryz.prog.cellsOf 3)) = some x3 := hf 3 _ rfl
  have h4 : DataW.trod enc Tryz.prog w base sp held n 3 (([c0, c1, c2, c3, c4, c5].drop 4).take (Tryz.prog.cellsOf 3)) = some x4 := hf 4 _ rfl
  have h5 : DataW.trod enc Tryz.prog w base sp held n 28 (([c0, c1, c2, c3, c4, c5].drop 5).take (Tryz.prog.cellsOf 28)) = some x5 := hf 5 _ rfl
  rw [cInt] at h0 h1 h3 h4
  rw [cBool] at h2
  rw [cBytes] at h5
  obtain ⟨n0, rfl, g0⟩ := trod_i64 h0
  obtain ⟨n1, rfl, g1⟩ := trod_i64 h1
  obtain ⟨b2, e2, _⟩ := DataW.trod_bool Tryz.underlying4 h2
  simp at e2
  subst e2
  obtain ⟨n3, rfl, g3⟩ := trod_i64 h3
  obtain ⟨n4, rfl, g4⟩ := trod_i64 h4
  obtain ⟨q, l, fc, rfl, s1, s2, s3, s4⟩ := open_info h5
  refine ⟨⟨n0, n1, b2, n3, n4, l⟩, q, fc, rfl, g0, g1, g3, g4, s1, ?_, s3, s4⟩
  rw [hx]
  have hp : Rows.uptoBulk x5.1 ≤ Rows.uptoBulkAll ([x0, x1, x2, x3, x4, x5].map (·.1)) := bulk_part (by simp)
  show l.length ≤ Rows.uptoBulkAll _ + 1
  omega
theorem open_config {fuel : Nat} {cs : List Value} {x : DataW H × List MemPlace} (h : DataW.trod enc Tryz.prog w base sp held fuel 32 cs = some x) : ∃ a b c d e f, cs = [.int .i64 a, .int .i64 b, .int .i64 c, .int .i64 d, .int .i64 e, .int .i64 f] ∧ I64 a ∧ I64 b ∧ I64 c ∧ I64 d ∧ I64 e ∧ I64 f := by
  obtain ⟨xs, n, _, hx, hl, hlen, hf⟩ := DataW.trod_struct Tryz.underlying32 h
  rw [cConfig] at hl
  have hx6 : xs.length = 6 := hlen
  obtain ⟨c0, c1, c2, c3, c4, c5, rfl⟩ := list6 hl
  obtain ⟨x0, x1, x2, x3, x4, x5, rfl⟩ := list6 hx6
  have h0 : DataW.trod enc Tryz.prog w base sp held n 3 (([c0, c1, c2, c3, c4, c5].drop 0).take (Tryz.prog.cellsOf 3)) = some x0 := hf 0 _ rfl
  have h1 : DataW.trod enc Tryz.prog w base sp held n 3 (([c0, c1, c2, c3, c4, c5].drop 1).take (Tryz.prog.cellsOf 3)) = some x1 := hf 1 _ rfl
  have h2 : DataW.trod enc Tryz.prog w base sp held n 3 (([c0, c1, c2, c3, c4, c5].drop 2).take (Tryz.prog.cellsOf 3)) = some x2 := hf 2 _ rfl
  have h3 : DataW.trod enc Tryz.prog w base sp held n 3 (([c0, c1, c2, c3, c4, c5].drop 3).take (Tryz.prog.cellsOf 3)) = some x3 := hf 3 _ rfl
  have h4 : DataW.trod enc Tryz.prog w base sp held n 3 (([c0, c1, c2, c3, c4, c5].drop 4).take (Tryz.prog.cellsOf 3)) = some x4 := hf 4 _ rfl
  have h5 : DataW.trod enc Tryz.prog w base sp held n 3 (([c0, c1, c2, c3, c4, c5].drop 5).take (Tryz.prog.cellsOf 3)) = some x5 := hf 5 _ rfl
  rw [cInt] at h0 h1 h2 h3 h4 h5
  obtain ⟨n0, rfl, g0⟩ := trod_i64 h0
  obtain ⟨n1, rfl, g1⟩ := trod_i64 h1
  obtain ⟨n2, rfl, g2⟩ := trod_i64 h2
  obtain ⟨n3, rfl, g3⟩ := trod_i64 h3
  obtain ⟨n4, rfl, g4⟩ := trod_i64 h4
  obtain ⟨n5, rfl, g5⟩ := trod_i64 h5
  exact ⟨n0, n1, n2, n3, n4, n5, rfl, g0, g1, g2, g3, g4, g5⟩
theorem open_lv {fuel : Nat} {c : Value} {x : DataW H × List MemPlace} (h : DataW.trod enc Tryz.prog w base sp held fuel 27 [c] = some x) : TextsIn w (Rows.uptoBulk x.1) c := by
  rcases open_strings Tryz.underlying27 Tryz.underlying9 cStr h with ⟨hcs, rfl⟩ | ⟨a, len, cap, ss, hcs, _, hl, hm, hz, rfl, hcell, hsz⟩
  · simp at hcs
    exact .inl hcs
  · simp at hcs
    subst hcs
    have hz' : len ≤ ss.length := by rw [hz]; split <;> omega
    have hbulk : ∀ s ∈ ss.take len, s.size + 1 ≤ Rows.uptoBulkAll (strs (H := H) (ss.take len)) := by
      intro s hs
      have hp : Rows.uptoBulk (DataW.lit (H := H) (.string s.data.toList)) ≤ Rows.uptoBulkAll (strs (H := H) (ss.take len)) := bulk_part (List.mem_map_of_mem (f := fun s : ByteArray => DataW.lit (H := H) (.string s.data.toList)) hs)
      have e : Rows.uptoBulk (DataW.lit (H := H) (.string s.data.toList)) = s.data.toList.length + 1 := rfl
      rw [e, Array.length_toList] at hp
      exact hp
    have hlenB : len ≤ Rows.uptoBulkAll (strs (H := H) (ss.take len)) := by
      have := bulk_length (strs (H := H) (ss.take len))
      have e : (strs (H := H) (ss.take len)).length = len := by simp [strs, List.length_take]; omega
      omega
    right
    refine ⟨a, len, cap, rfl, hl, hm, ?_, ?_, fun i hi => ?_⟩
    · show len ≤ Rows.uptoBulkAll _ + Rows.uptoBulkAll _ + 1
      omega
    · by_cases h0 : len = 0
      · exact .inl h0
      · right
        have hc := hcell 0 (by omega)
        obtain ⟨b, off, spot⟩ := a
        have hspot : spot = none := by simpa [Addr.add] using World.cell?_spot hc
        subst hspot
        rw [add_plain] at hc
        exact ⟨rfl, block_lt_of_cell hc⟩
    · have hc := hcell i (by omega)
      have hiz : i < ss.length := by omega
      have es : ss.getD i ByteArray.empty = ss[i] := by rw [List.getD_eq_getElem?_getD, List.getElem?_eq_getElem hiz]; rfl
      have hc0 := hcell 0 (by omega)
      obtain ⟨b, off, spot⟩ := a
      have hspot : spot = none := by simpa [Addr.add] using World.cell?_spot hc0
      subst hspot
      rw [add_plain, es] at hc
      refine ⟨ss[i], hc, ?_⟩
      have hm' : ss[i] ∈ ss.take len := List.mem_take_iff_getElem.2 ⟨i, by omega, rfl⟩
      have := hbulk _ hm'
      show _ ≤ Rows.uptoBulkAll _ + Rows.uptoBulkAll _ + 1
      omega
theorem open_op {fuel : Nat} {cs : List Value} {x : DataW H × List MemPlace} (h : DataW.trod enc Tryz.prog w base sp held fuel 34 cs = some x) : ∃ o, cs = opCells o ∧ OpIn w (Rows.uptoBulk x.1) o := by
  obtain ⟨xs, n, _, hx, hl, hlen, hf⟩ := DataW.trod_struct Tryz.underlying34 h
  rw [cOp] at hl
  have hx8 : xs.length = 8 := hlen
  obtain ⟨c0, c1, c2, c3, c4, c5, c6, c7, c8, c9, c10, c11, c12, c13, c14, c15, c16, c17, rfl⟩ := list18 hl
  obtain ⟨x0, x1, x2, x3, x4, x5, x6, x7, rfl⟩ := list8 hx8
  have hbk : ∀ y, y ∈ [x0, x1, x2, x3, x4, x5, x6, x7] → Rows.uptoBulk y.1 ≤ Rows.uptoBulk x.1 := by
    intro y hy
    rw [hx]
    have hp : Rows.uptoBulk y.1 ≤ Rows.uptoBulkAll ([x0, x1, x2, x3, x4, x5, x6, x7].map (·.1)) := bulk_part (List.mem_map_of_mem hy)
    show _ ≤ Rows.uptoBulkAll _ + 1
    omega
  have h0 : DataW.trod enc Tryz.prog w base sp held n 3 [c0] = some x0 := by have := hf 0 _ rfl; simpa [cInt] using this
  have h1 : DataW.trod enc Tryz.prog w base sp held n 3 [c1] = some x1 := by have := hf 1 _ rfl; simpa [cInt] using this
  have h2 : DataW.trod enc Tryz.prog w base sp held n 3 [c2] = some x2 := by have := hf 2 _ rfl; simpa [cInt] using this
  have h3 : DataW.trod enc Tryz.prog w base sp held n 3 [c3] = some x3 := by have := hf 3 _ rfl; simpa [cInt] using this
  have h4 : DataW.trod enc Tryz.prog w base sp held n 9 [c4] = some x4 := by have := hf 4 _ rfl; simpa [cStr] using this
  have h5 : DataW.trod enc Tryz.prog w base sp held n 27 [c5] = some x5 := by have := hf 5 _ rfl; simpa [cTexts] using this
  have h6 : DataW.trod enc Tryz.prog w base sp held n 30 [c6, c7, c8, c9, c10, c11] = some x6 := by have := hf 6 _ rfl; simpa [cFrame] using this
  have h7 : DataW.trod enc Tryz.prog w base sp held n 32 [c12, c13, c14, c15, c16, c17] = some x7 := by have := hf 7 _ rfl; simpa [cConfig] using this
  obtain ⟨n0, rfl, g0⟩ := trod_i64 h0
  obtain ⟨n1, rfl, g1⟩ := trod_i64 h1
  obtain ⟨n2, rfl, g2⟩ := trod_i64 h2
  obtain ⟨n3, rfl, g3⟩ := trod_i64 h3
  obtain ⟨s4, e4, f4, _⟩ := DataW.trod_string Tryz.underlying9 h4
  simp at e4
  subst e4
  have l5 := open_lv h5
  obtain ⟨f, q, fc, e6, y1, y2, y3, y4, y5, y6, y7, y8⟩ := open_frame h6
  obtain ⟨k0, k1, k2, k3, k4, k5, e7, z0, z1, z2, z3, z4, z5⟩ := open_config h7
  simp at e6 e7
  obtain ⟨rfl, rfl, rfl, rfl, rfl, rfl⟩ := e6
  obtain ⟨rfl, rfl, rfl, rfl, rfl, rfl⟩ := e7
  have b4 := hbk x4 (by simp)
  have b5 := hbk x5 (by simp)
  have b6 := hbk x6 (by simp)
  refine ⟨⟨n0, n1, n2, n3, s4, c5, f, q, fc, k0, k1, k2, k3, k4, k5⟩, rfl, ⟨⟨g0, g1, g2, g3, y1, y2, y3, y4, z0, z1, z2, z3, z4, z5⟩, ?_, ?_, y5, Nat.le_trans y6 b6, y7, y8⟩⟩
  · rw [f4] at b4
    have : s4.size + 1 ≤ Rows.uptoBulk x.1 := by
      have e : Rows.uptoBulk (DataW.lit (H := H) (.string s4.data.toList)) = s4.data.toList.length + 1 := rfl
      rw [e, Array.length_toList] at b4
      exact b4
    show s4.size ≤ _
    omega
  · show TextsIn w _ c5
    rcases l5 with l5 | ⟨a, len, cap, q1, q2, q3, q4, q5, q6⟩
    · exact .inl l5
    · exact .inr ⟨a, len, cap, q1, q2, q3, Nat.le_trans q4 b5, q5, fun i hi => by obtain ⟨t, t1, t2⟩ := q6 i hi; exact ⟨t, t1, Nat.le_trans t2 b5⟩⟩
end
end Go.Proofs.YtkalonhalhdlaaaGreatDoor

/-
  A list of steps opened out of its datum, each step with its own share of the bulk.
-/
namespace Go.Proofs.YtkalonhalhdlaaaGreatDoor
open Go.ChangeShapes Go.WideShapes Go.ChangeAt Go.RowKit
theorem bulk_sum {H : Type} : ∀ (l : List (DataW H)), (l.map Rows.uptoBulk).sum ≤ Rows.uptoBulkAll l := by
  intro l
  induction l with
  | nil => simp
  | cons x r ih =>
    unfold Rows.uptoBulkAll
    simp only [List.map_cons, List.sum_cons]
    omega
section
variable {H : Type} {enc : TypeId × Value → H} {w : World} {base : Nat} {sp : Nat → Bool} {held : Bool}
/-- A list of steps. -/
theorem open_opsN {fuel : Nat} {a : Option Addr} {len cap : Nat} {x : DataW H × List MemPlace} (h : DataW.trod enc Tryz.prog w base sp held fuel 22 [.slice a len cap] = some x) :
    ∃ os : List OpV, os.length = len ∧ (a = none → len = 0 ∧ cap = 0) ∧ len ≤ Rows.uptoBulk x.1 ∧ (len = 0 ∨ ∃ b off, a = some ⟨b, off, none⟩ ∧ b < w.heap.size ∧ ∀ j v, (opsCells os)[j]? = some v → w.cell? ⟨b, off + j, none⟩ = some v) ∧ ∃ ns : List Nat, ns.length = len ∧ ns.sum ≤ Rows.uptoBulk x.1 ∧ ∀ (i : Nat) (o : OpV) (n : Nat), os[i]? = some o → ns[i]? = some n → OpIn w n o := by
  rcases DataW.trod_slice Tryz.underlying22 h with ⟨hcs, rfl⟩ | ⟨a0, len0, cap0, elems, rest, n, _, hcs, hx, _, _, _, hlen, hel, _⟩
  · simp at hcs
    obtain ⟨rfl, rfl, rfl⟩ := hcs
    exact ⟨[], rfl, fun _ => ⟨rfl, rfl⟩, Nat.zero_le _, .inl rfl, [], rfl, Nat.zero_le _, fun i o n ho => by simp at ho⟩
  · simp at hcs
    obtain ⟨rfl, rfl, rfl⟩ := hcs
    have hlb : len ≤ Rows.uptoBulk x.1 := by
      rw [hx]
      have := bulk_length (elems.map (·.1))
      rw [List.length_map] at this
      show _ ≤ Rows.uptoBulkAll _ + Rows.uptoBulkAll _ + 1
      omega
    have hex : ∀ i, ∃ o : OpV, i < len → (∀ y, elems[i]? = some y → OpIn w (Rows.uptoBulk y.1) o) ∧ ∀ k, k < 18 → w.cell? ((a0.add (i * 18)).add k) = (opCells o)[k]? := by
      intro i
      by_cases hi : i < len
      · have hE := hel i hi
        rw [cOp] at hE
        obtain ⟨y, hy⟩ : ∃ y, elems[i]? = some y := ⟨_, List.getElem?_eq_getElem (by omega)⟩
        rw [hy] at hE
        obtain ⟨cs, h1, h2⟩ := Option.bind_eq_some_iff.1 hE
        obtain ⟨_, hl2, hc⟩ := World.cells?_some h1
        obtain ⟨o, rfl, ho⟩ := open_op h2
        refine ⟨o, fun _ => ⟨fun y2 hy2 => ?_, hc⟩⟩
        rw [hy] at hy2
        cases hy2
        exact ho
      · exact ⟨opZ, fun h => absurd h hi⟩
    obtain ⟨f, hf⟩ := Classical.axiomOfChoice hex
    refine ⟨(List.range len).map f, by simp, fun e => by simp at e, hlb, ?_, elems.map (fun y => Rows.uptoBulk y.1), by simp [hlen], ?_, fun i o n ho hn => ?_⟩
    · by_cases h0 : len = 0
      · exact .inl h0
      · right
        obtain ⟨b, off, spot⟩ := a0
        have hc0 := (hf 0 (by omega)).2 0 (by omega)
        have hspot : spot = none := by
          have h00 : (opCells (f 0))[0]? = some (.int .i64 (f 0).kind) := rfl
          rw [h00] at hc0
          simpa [Addr.add] using World.cell?_spot hc0
        subst hspot
        have hall : ∀ i k, i < len → k < 18 → w.cell? ⟨b, off + i * 18 + k, none⟩ = (opCells (f i))[k]? := by
          intro i k hi hk
          have := (hf i hi).2 k hk
          rw [add_plain, add_plain] at this
          exact this
        have hb0 := hall 0 0 (by omega) (by omega)
        have h00 : (opCells (f 0))[0]? = some (.int .i64 (f 0).kind) := rfl
        rw [h00] at hb0
        refine ⟨b, off, rfl, block_lt_of_cell hb0, fun j v hj => ?_⟩
        have hjl : j < (opsCells ((List.range len).map f)).length := (List.getElem?_eq_some_iff.1 hj).1
        have hlen2 : (opsCells ((List.range len).map f)).length = len * 18 := by rw [opsCells_len, List.length_map, List.length_range]
        have hd : j / 18 < len := by omega
        have hk : j % 18 < 18 := Nat.mod_lt _ (by omega)
        have ho : ((List.range len).map f)[j / 18]? = some (f (j / 18)) := by
          rw [List.getElem?_map, List.getElem?_range hd]
          rfl
        have e := opsCells_get _ _ _ (j % 18) ho hk
        rw [show j / 18 * 18 + j % 18 = j by omega, hj] at e
        have := hall (j / 18) (j % 18) hd hk
        rw [← e, show off + j / 18 * 18 + j % 18 = off + j by omega] at this
        exact this
    · rw [hx]
      have := bulk_sum (elems.map (·.1))
      rw [List.map_map] at this
      show (elems.map fun y => Rows.uptoBulk y.1).sum ≤ Rows.uptoBulkAll _ + Rows.uptoBulkAll _ + 1
      have e : (elems.map fun y => Rows.uptoBulk y.1) = elems.map (Rows.uptoBulk ∘ (·.1)) := rfl
      rw [e]
      omega
    · have hi : i < len := by
        have := (List.getElem?_eq_some_iff.1 ho).1
        simpa using this
      rw [List.getElem?_map, List.getElem?_range hi] at ho
      simp at ho
      subst ho
      rw [List.getElem?_map] at hn
      obtain ⟨y, hy, rfl⟩ := Option.map_eq_some_iff.1 hn
      exact (hf i hi).1 y hy
end
end Go.Proofs.YtkalonhalhdlaaaGreatDoor

/-
  A list of steps: each step's bulk is at least 21.
-/
namespace Go.Proofs.YtkalonhalhdlaaaGreatDoor
open Go.ChangeShapes Go.WideShapes Go.ChangeAt Go.RowKit
section
variable {H : Type} {enc : TypeId × Value → H} {w : World} {base : Nat} {sp : Nat → Bool} {held : Bool}
theorem frame_big {fuel : Nat} {cs : List Value} {x : DataW H × List MemPlace} (h : DataW.trod enc Tryz.prog w base sp held fuel 30 cs = some x) : 7 ≤ Rows.uptoBulk x.1 := by
  obtain ⟨xs, n, _, hx, hl, hlen, hf⟩ := DataW.trod_struct Tryz.underlying30 h
  have hx6 : xs.length = 6 := hlen
  rw [hx]
  have := bulk_length (xs.map (·.1))
  rw [List.length_map] at this
  show 7 ≤ Rows.uptoBulkAll _ + 1
  omega
theorem config_big {fuel : Nat} {cs : List Value} {x : DataW H × List MemPlace} (h : DataW.trod enc Tryz.prog w base sp held fuel 32 cs = some x) : 7 ≤ Rows.uptoBulk x.1 := by
  obtain ⟨xs, n, _, hx, hl, hlen, hf⟩ := DataW.trod_struct Tryz.underlying32 h
  have hx6 : xs.length = 6 := hlen
  rw [hx]
  have := bulk_length (xs.map (·.1))
  rw [List.length_map] at this
  show 7 ≤ Rows.uptoBulkAll _ + 1
  omega
theorem op_big {fuel : Nat} {cs : List Value} {x : DataW H × List MemPlace} (h : DataW.trod enc Tryz.prog w base sp held fuel 34 cs = some x) : 21 ≤ Rows.uptoBulk x.1 := by
  obtain ⟨xs, n, _, hx, hl, hlen, hf⟩ := DataW.trod_struct Tryz.underlying34 h
  have hx8 : xs.length = 8 := hlen
  obtain ⟨x0, x1, x2, x3, x4, x5, x6, x7, rfl⟩ := list8 hx8
  have h6 : DataW.trod enc Tryz.prog w base sp held n 30 ((cs.drop 6).take (Tryz.prog.cellsOf 30)) = some x6 := hf 6 _ rfl
  have h7 : DataW.trod enc Tryz.prog w base sp held n 32 ((cs.drop 12).take (Tryz.prog.cellsOf 32)) = some x7 := hf 7 _ rfl
  have b6 := frame_big h6
  have b7 := config_big h7
  have b0 := bulk_one x0.1
  have b1 := bulk_one x1.1
  have b2 := bulk_one x2.1
  have b3 := bulk_one x3.1
  have b4 := bulk_one x4.1
  have b5 := bulk_one x5.1
  rw [hx]
  show 21 ≤ Rows.uptoBulkAll _ + 1
  simp only [List.map_cons, List.map_nil, Rows.uptoBulkAll]
  omega
theorem sum_big : ∀ (l : List Nat) (k : Nat), (∀ n ∈ l, k ≤ n) → k * l.length ≤ l.sum := by
  intro l k h
  induction l with
  | nil => simp
  | cons x r ih =>
    have h1 := h x (by simp)
    have h2 := ih (fun n hn => h n (by simp [hn]))
    simp only [List.length_cons, List.sum_cons, Nat.mul_add]
    omega
theorem ops_big {fuel : Nat} {a : Option Addr} {len cap : Nat} {x : DataW H × List MemPlace} (h : DataW.trod enc Tryz.prog w base sp held fuel 22 [.slice a len cap] = some x) : 21 * len ≤ Rows.uptoBulk x.1 := by
  rcases DataW.trod_slice Tryz.underlying22 h with ⟨hcs, rfl⟩ | ⟨a0, len0, cap0, elems, rest, n, _, hcs, hx, _, _, _, hlen, hel, _⟩
  · simp at hcs
    obtain ⟨rfl, rfl, rfl⟩ := hcs
    simp
  · simp at hcs
    obtain ⟨rfl, rfl, rfl⟩ := hcs
    rw [hx]
    have hs := bulk_sum (elems.map (·.1))
    rw [List.map_map] at hs
    have hb := sum_big (elems.map (Rows.uptoBulk ∘ (·.1))) 21 (fun m hm => by
      obtain ⟨y, hy, rfl⟩ := List.mem_map.1 hm
      obtain ⟨i, hi⟩ := List.getElem?_of_mem hy
      have hil := (List.getElem?_eq_some_iff.1 hi).1
      have hE := hel i (by omega)
      rw [hi] at hE
      obtain ⟨cs, h1, h2⟩ := Option.bind_eq_some_iff.1 hE
      exact op_big h2)
    rw [List.length_map, hlen] at hb
    show _ ≤ Rows.uptoBulkAll _ + Rows.uptoBulkAll _ + 1
    omega
end
end Go.Proofs.YtkalonhalhdlaaaGreatDoor
