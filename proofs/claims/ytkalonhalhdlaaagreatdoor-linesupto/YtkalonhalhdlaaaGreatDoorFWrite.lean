/-
  What one call of Write does: an error and no bytes, or the bytes in new memory.
-/
import Derived.Test.YtkalonhalhdlaaaGreatDoorVFrs
import Derived.Test.YtkalonhalhdlaaaGreatDoorFCat
namespace Go.Proofs.YtkalonhalhdlaaaGreatDoor
open Go.RowKit

def frV (f : Fr) (q : Option Addr) (c : Nat) : Value := .agg #[.int .i64 f.a, .int .i64 f.k, .bool f.p, .int .i64 f.ns, .int .i64 f.nr, .slice q f.info.length c]

theorem owns_nil (w : World) (base : Nat) : w.ownsRow base 5 1 (.slice none 0 0) 0 [] := World.ownsRow_nil _ _ _ _

set_option maxHeartbeats 2000000 in
set_option maxRecDepth 100000 in
theorem write_arg (m a k ns nr : Int) (p : Bool) (v : Value) (w : World) (h : (isMod m && isKd k && (numF m ns (hasS k) && numF m nr (hasR k))) = false) :
    Calls Tryz.prog 32 #[.int .i64 m, .agg #[.int .i64 a, .int .i64 k, .bool p, .int .i64 ns, .int .i64 nr, v]] w fun e w' => e = .returned (.tuple #[.slice none 0 0, .int .i64 1]) ∧ Below w.heap.size w w' := by
  have c1 := fun w => isModulo_any m w
  have c2 := fun w => isKind_any k w
  have c3 := fun w => numbersFit_any m a k ns nr p v w
  generalize (numF m ns (hasS k) && numF m nr (hasR k)) = x3 at c3 h
  generalize isKd k = x2 at c2 h
  generalize isMod m = x1 at c1 h
  have hb0 : ∀ o, Below w.heap.size w (w.alloc o) := fun o => (Below.refl _ w).alloc (Nat.le_refl _) o
  cases x1 with
  | false =>
    go_enter Tryz.func32, Tryz.ntmps32
    go_wp2_with fail
    refine (c1 _).mono ?_
    rintro e W1 ⟨rfl, rfl⟩
    go_wp2
    exact bodyPost_ret (v := .tuple #[.slice none 0 0, .int .i64 1]) (by simp [results, Tryz.results32, go_sem]) rfl ⟨rfl, hb0 _⟩
  | true =>
    cases x2 with
    | false =>
      go_enter Tryz.func32, Tryz.ntmps32
      go_wp2_with fail
      refine (c1 _).mono ?_
      rintro e W1 ⟨rfl, rfl⟩
      go_wp2_with fail
      refine (c2 _).mono ?_
      rintro e W1 ⟨rfl, rfl⟩
      go_wp2
      exact bodyPost_ret (v := .tuple #[.slice none 0 0, .int .i64 1]) (by simp [results, Tryz.results32, go_sem]) rfl ⟨rfl, hb0 _⟩
    | true =>
      simp at h
      subst h
      go_enter Tryz.func32, Tryz.ntmps32
      go_wp2_with fail
      refine (c1 _).mono ?_
      rintro e W1 ⟨rfl, rfl⟩
      go_wp2_with fail
      refine (c2 _).mono ?_
      rintro e W1 ⟨rfl, rfl⟩
      go_wp2_with fail
      refine (c3 _).mono ?_
      rintro e W1 ⟨rfl, hb⟩
      go_wp2
      exact bodyPost_ret (v := .tuple #[.slice none 0 0, .int .i64 1]) (by simp [results, Tryz.results32, go_sem]) rfl ⟨rfl, (hb0 _).trans (hb.mono (by simp))⟩

set_option maxHeartbeats 2000000 in
set_option maxRecDepth 100000 in
theorem write_addr (m a k ns nr : Int) (p : Bool) (v : Value) (w : World) (h : (isMod m && isKd k && (numF m ns (hasS k) && numF m nr (hasR k))) = true) (ha : isAddr a = false) :
    Calls Tryz.prog 32 #[.int .i64 m, .agg #[.int .i64 a, .int .i64 k, .bool p, .int .i64 ns, .int .i64 nr, v]] w fun e w' => e = .returned (.tuple #[.slice none 0 0, .int .i64 3]) ∧ Below w.heap.size w w' := by
  have c1 := fun w => isModulo_any m w
  have c2 := fun w => isKind_any k w
  have c3 := fun w => numbersFit_any m a k ns nr p v w
  have c4 := fun w => isAddress_any a w
  simp only [Bool.and_eq_true] at h
  rw [h.1.1] at c1
  rw [h.1.2] at c2
  rw [h.2.1, h.2.2] at c3
  rw [ha] at c4
  clear h ha
  simp only [Bool.and_self] at c3
  have hb0 : ∀ o, Below w.heap.size w (w.alloc o) := fun o => (Below.refl _ w).alloc (Nat.le_refl _) o
  go_enter Tryz.func32, Tryz.ntmps32
  go_wp2_with fail
  refine (c1 _).mono ?_
  rintro e W1 ⟨rfl, rfl⟩
  go_wp2_with fail
  refine (c2 _).mono ?_
  rintro e W1 ⟨rfl, rfl⟩
  go_wp2_with fail
  refine (c3 _).mono ?_
  rintro e W1 ⟨rfl, hb⟩
  have r0 : W1.cell? ⟨w.heap.size, 0, none⟩ = some (.int .i64 a) := by rw [hb.cell (p := ⟨w.heap.size, 0, none⟩) (by simp)]; simp
  go_wp2_with fail
  refine (c4 _).mono ?_
  rintro e W2 ⟨rfl, rfl⟩
  go_wp2
  exact bodyPost_ret (v := .tuple #[.slice none 0 0, .int .i64 3]) (by simp [results, Tryz.results32, go_sem]) rfl ⟨rfl, (hb0 _).trans (hb.mono (by simp))⟩

set_option maxHeartbeats 2000000 in
set_option maxRecDepth 100000 in
theorem write_info (m a k ns nr : Int) (p : Bool) (q : Option Addr) (n c : Nat) (w : World) (h : (isMod m && isKd k && (numF m ns (hasS k) && numF m nr (hasR k))) = true) (ha : isAddr a = true) (hi : infoF m k n = false) :
    Calls Tryz.prog 32 #[.int .i64 m, .agg #[.int .i64 a, .int .i64 k, .bool p, .int .i64 ns, .int .i64 nr, .slice q n c]] w fun e w' => e = .returned (.tuple #[.slice none 0 0, .int .i64 5]) ∧ Below w.heap.size w w' := by
  have c1 := fun w => isModulo_any m w
  have c2 := fun w => isKind_any k w
  have c3 := fun w => numbersFit_any m a k ns nr p (.slice q n c) w
  have c4 := fun w => isAddress_any a w
  have c5 := fun w => infoFits_any m k n w
  simp only [Bool.and_eq_true] at h
  rw [h.1.1] at c1
  rw [h.1.2] at c2
  rw [h.2.1, h.2.2] at c3
  rw [ha] at c4
  rw [hi] at c5
  clear h ha hi
  simp only [Bool.and_self] at c3
  have hb0 : ∀ o, Below w.heap.size w (w.alloc o) := fun o => (Below.refl _ w).alloc (Nat.le_refl _) o
  go_enter Tryz.func32, Tryz.ntmps32
  go_wp2_with fail
  refine (c1 _).mono ?_
  rintro e W1 ⟨rfl, rfl⟩
  go_wp2_with fail
  refine (c2 _).mono ?_
  rintro e W1 ⟨rfl, rfl⟩
  go_wp2_with fail
  refine (c3 _).mono ?_
  rintro e W1 ⟨rfl, hb⟩
  have r0 : W1.cell? ⟨w.heap.size, 0, none⟩ = some (.int .i64 a) := by rw [hb.cell (p := ⟨w.heap.size, 0, none⟩) (by simp)]; simp
  have r1 : W1.cell? ⟨w.heap.size, 1, none⟩ = some (.int .i64 k) := by rw [hb.cell (p := ⟨w.heap.size, 1, none⟩) (by simp)]; simp
  have r5 : W1.cell? ⟨w.heap.size, 5, none⟩ = some (.slice q n c) := by rw [hb.cell (p := ⟨w.heap.size, 5, none⟩) (by simp)]; simp
  go_wp2_with fail
  refine (c4 _).mono ?_
  rintro e W2 ⟨rfl, rfl⟩
  go_wp2_with fail
  refine (c5 _).mono ?_
  rintro e W2 ⟨rfl, rfl⟩
  go_wp2
  exact bodyPost_ret (v := .tuple #[.slice none 0 0, .int .i64 5]) (by simp [results, Tryz.results32, go_sem]) rfl ⟨rfl, (hb0 _).trans (hb.mono (by simp))⟩

/-- What the region that makes the bytes holds: the frame's box, and what lay below. -/
abbrev Held (B : Nat) (W : World) (a k : Int) (p : Bool) (ns nr : Int) (v : Value) (w' : World) : Prop :=
  w'.cell? ⟨B, 0, none⟩ = some (.int .i64 a) ∧ w'.cell? ⟨B, 1, none⟩ = some (.int .i64 k) ∧ w'.cell? ⟨B, 2, none⟩ = some (.bool p) ∧ w'.cell? ⟨B, 3, none⟩ = some (.int .i64 ns) ∧ w'.cell? ⟨B, 4, none⟩ = some (.int .i64 nr) ∧ w'.cell? ⟨B, 5, none⟩ = some v ∧ Below (B + 1) W w'

theorem Held.of {B : Nat} {W : World} {a k : Int} {p : Bool} {ns nr : Int} {v : Value} {w' w'' : World} (h : Held B W a k p ns nr v w') {n : Nat} (hb : Below n w' w'') (hn : B + 1 ≤ n) : Held B W a k p ns nr v w'' := by
  obtain ⟨h0, h1, h2, h3, h4, h5, h6⟩ := h
  have e : ∀ i, w''.cell? ⟨B, i, none⟩ = w'.cell? ⟨B, i, none⟩ := fun i => hb.cell (p := ⟨B, i, none⟩) hn
  exact ⟨by rw [e]; exact h0, by rw [e]; exact h1, by rw [e]; exact h2, by rw [e]; exact h3, by rw [e]; exact h4, by rw [e]; exact h5, h6.trans (hb.mono hn)⟩

theorem Held.alloc {B : Nat} {W : World} {a k : Int} {p : Bool} {ns nr : Int} {v : Value} {w' : World} (h : Held B W a k p ns nr v w') (hW : B + 1 ≤ W.heap.size) (o : Obj) : Held B W a k p ns nr v (w'.alloc o) :=
  h.of ((Below.refl w'.heap.size w').alloc (Nat.le_refl _) o) (Nat.le_trans hW h.2.2.2.2.2.2.size)

theorem Held.drew {B : Nat} {W : World} {a k : Int} {p : Bool} {ns nr : Int} {v : Value} {w' : World} (h : Held B W a k p ns nr v w') : Held B W a k p ns nr v w'.drew :=
  h.of ((Below.refl (B + 1) w').drew) (Nat.le_refl _)

theorem concat3 (w X : World) (ab b cb c : Nat) (av : UInt8) (ctl l : List UInt8) (q : Option Addr) (hwX : Below w.heap.size w X) (hA : Seg X ab 0 [av]) (hab : ab < X.heap.size) (hB : Seg X b 0 ctl) (hb : b < X.heap.size) (hsrc : SrcIs X q l) (hcb : ctl.length = cb) (hc : cb ≤ 2) (hl : l.length ≤ 32) :
    Calls Tryz.prog 76 #[.slice (some ⟨X.heap.size, 0, none⟩) 3 3] (X.alloc (.cells #[.slice (some ⟨ab, 0, none⟩) 1 1, .slice (some ⟨b, 0, none⟩) cb cb, .slice q l.length c] 28)) fun e w' => ∃ v, e = .returned v ∧ w'.ownsRow w.heap.size 5 1 v (1 + cb + l.length) (Lib.byteCells (av :: (ctl ++ l))) ∧ Below (X.alloc (.cells #[.slice (some ⟨ab, 0, none⟩) 1 1, .slice (some ⟨b, 0, none⟩) cb cb, .slice q l.length c] 28)).heap.size (X.alloc (.cells #[.slice (some ⟨ab, 0, none⟩) 1 1, .slice (some ⟨b, 0, none⟩) cb cb, .slice q l.length c] 28)) w' ∧ Hid (Below w.heap.size w w') := by
  subst hcb
  have hX : Below X.heap.size X (X.alloc (.cells #[.slice (some ⟨ab, 0, none⟩) 1 1, .slice (some ⟨b, 0, none⟩) ctl.length ctl.length, .slice q l.length c] 28)) := (Below.refl _ X).alloc (Nat.le_refl _) _
  have hP : PartsAt (X.alloc (.cells #[.slice (some ⟨ab, 0, none⟩) 1 1, .slice (some ⟨b, 0, none⟩) ctl.length ctl.length, .slice q l.length c] 28)) X.heap.size [(some ⟨ab, 0, none⟩, 1, [av]), (some ⟨b, 0, none⟩, ctl.length, ctl), (q, c, l)] := by
    intro i hi
    have h3 : i = 0 ∨ i = 1 ∨ i = 2 := by simp at hi; omega
    rcases h3 with rfl | rfl | rfl
    · exact ⟨by simp, .inr ⟨ab, 0, rfl, by simp; omega, hA.below hX hab⟩⟩
    · exact ⟨by simp, .inr ⟨b, 0, rfl, by simp; omega, hB.below hX hb⟩⟩
    · exact ⟨by simp, hsrc.below hX (Nat.le_refl _)⟩
  have e : catL [(some ⟨ab, 0, none⟩, 1, [av]), (some ⟨b, 0, none⟩, ctl.length, ctl), (q, c, l)] = av :: (ctl ++ l) := by simp [catL]
  have hlen : (av :: (ctl ++ l)).length = 1 + ctl.length + l.length := by simp; omega
  have h := concat_any X.heap.size 3 _ _ hP (by simp) (by simp) (by rw [e, hlen]; omega) (by rw [e, hlen]; omega)
  rw [e, hlen] at h
  refine h.mono ?_
  rintro e w' ⟨v, rfl, hown, hbl⟩
  have hz := hwX.size
  refine ⟨v, rfl, ownsRow_mono hown (by simp; omega), hbl, ?_⟩
  exact (hwX.trans (hX.mono hz)).trans (hbl.mono (by simp; omega))

theorem addr_byte {a : Int} (ha : isAddr a = true) : IntKind.u8.wrap a = ((UInt8.ofNat a.toNat).toNat : Int) := by
  simp [isAddr] at ha
  rcases ha with rfl | rfl <;> decide

theorem seg1 (W : World) (x : UInt8) : Seg (W.alloc (.cells #[.int .u8 (x.toNat : Int)] 5)) W.heap.size 0 [x] := by
  intro i hi
  simp at hi
  subst hi
  simp

theorem catA {w W w' : World} {b cb c : Nat} {x : UInt8} {ctl l : List UInt8} {q : Option Addr} (hwW : Below w.heap.size w W) (hbl : Below (W.alloc (.cells #[.int .u8 (x.toNat : Int)] 5)).drew.heap.size (W.alloc (.cells #[.int .u8 (x.toNat : Int)] 5)).drew w') (hseg : Seg w' b 0 ctl) (hb2 : b < w'.heap.size) (hsrc : SrcIs w q l) (hcl : ctl.length = cb) (hc2 : cb ≤ 2) (hl : l.length ≤ 32) :
    Calls Tryz.prog 76 #[.slice (some ⟨w'.heap.size, 0, none⟩) 3 3] (w'.alloc (.cells #[.slice (some ⟨W.heap.size, 0, none⟩) 1 1, .slice (some ⟨b, 0, none⟩) cb cb, .slice q l.length c] 28)) fun e w'' => ∃ v, e = .returned v ∧ w''.ownsRow w.heap.size 5 1 v (1 + cb + l.length) (Lib.byteCells (x :: (ctl ++ l))) ∧ Below (w'.alloc (.cells #[.slice (some ⟨W.heap.size, 0, none⟩) 1 1, .slice (some ⟨b, 0, none⟩) cb cb, .slice q l.length c] 28)).heap.size (w'.alloc (.cells #[.slice (some ⟨W.heap.size, 0, none⟩) 1 1, .slice (some ⟨b, 0, none⟩) cb cb, .slice q l.length c] 28)) w'' ∧ Hid (Below w.heap.size w w'') := by
  have hz := hwW.size
  have hz2 := hbl.size
  have e1 : (W.alloc (.cells #[.int .u8 (x.toNat : Int)] 5)).drew.heap.size = W.heap.size + 1 := by simp
  rw [e1] at hz2 hbl
  have h1 : Below W.heap.size W w' := ((Below.refl W.heap.size W).alloc (Nat.le_refl _) _).drew.trans (hbl.mono (by omega))
  refine concat3 w w' W.heap.size b cb c x ctl l q (hwW.trans (h1.mono hz)) ?_ (by omega) hseg hb2 ?_ hcl hc2 hl
  · exact Seg.below (w := (W.alloc (.cells #[.int .u8 (x.toNat : Int)] 5)).drew) (seg1 W x) hbl (by omega)
  · exact (hsrc.below hwW (Nat.le_refl _)).below h1 (Nat.le_refl _)

theorem catB {w W w' : World} {b cb c : Nat} {x : UInt8} {ctl l : List UInt8} {q : Option Addr} (hwW : Below w.heap.size w W) (hbl : Below W.drew.heap.size W.drew w') (hseg : Seg w' b 0 ctl) (hb2 : b < w'.heap.size) (hsrc : SrcIs w q l) (hcl : ctl.length = cb) (hc2 : cb ≤ 2) (hl : l.length ≤ 32) :
    Calls Tryz.prog 76 #[.slice (some ⟨w'.heap.size + 1, 0, none⟩) 3 3] ((w'.alloc (.cells #[.int .u8 (x.toNat : Int)] 5)).alloc (.cells #[.slice (some ⟨w'.heap.size, 0, none⟩) 1 1, .slice (some ⟨b, 0, none⟩) cb cb, .slice q l.length c] 28)) fun e w'' => ∃ v, e = .returned v ∧ w''.ownsRow w.heap.size 5 1 v (1 + cb + l.length) (Lib.byteCells (x :: (ctl ++ l))) ∧ Below ((w'.alloc (.cells #[.int .u8 (x.toNat : Int)] 5)).alloc (.cells #[.slice (some ⟨w'.heap.size, 0, none⟩) 1 1, .slice (some ⟨b, 0, none⟩) cb cb, .slice q l.length c] 28)).heap.size ((w'.alloc (.cells #[.int .u8 (x.toNat : Int)] 5)).alloc (.cells #[.slice (some ⟨w'.heap.size, 0, none⟩) 1 1, .slice (some ⟨b, 0, none⟩) cb cb, .slice q l.length c] 28)) w'' ∧ Hid (Below w.heap.size w w'') := by
  have hz := hwW.size
  have hz2 := hbl.size
  have e1 : W.drew.heap.size = W.heap.size := rfl
  have e2 : (w'.alloc (.cells #[.int .u8 (x.toNat : Int)] 5)).heap.size = w'.heap.size + 1 := by simp
  rw [← e2]
  rw [e1] at hz2 hbl
  have h1 : Below W.heap.size W w' := (Below.refl W.heap.size W).drew.trans hbl
  have h2 : Below w'.heap.size w' (w'.alloc (.cells #[.int .u8 (x.toNat : Int)] 5)) := (Below.refl _ w').alloc (Nat.le_refl _) _
  refine concat3 w (w'.alloc (.cells #[.int .u8 (x.toNat : Int)] 5)) w'.heap.size b cb c x ctl l q ((hwW.trans (h1.mono hz)).trans (h2.mono (by omega))) (seg1 w' x) (by simp) (hseg.below h2 hb2) (by simp; omega) ?_ hcl hc2 hl
  exact ((hsrc.below hwW (Nat.le_refl _)).below h1 (Nat.le_refl _)).below h2 (Nat.le_refl _)

theorem numOk_true {m k ns nr : Nat} (h : NumOk m k ns nr) : (numF m ns (hasS k) && numF m nr (hasR k)) = true := by
  obtain ⟨hm, k1, k9, a1, a2, b1, b2⟩ := h
  have e1 : numF m ns (hasS k) = true := by
    by_cases h : k = 1
    · subst h
      have := a1 rfl
      simp [numF, hasS]
      omega
    · have hs : hasS k = false := by simp [hasS]; omega
      have := a2 h
      simp [numF, hs, this]
  have e2 : numF m nr (hasR k) = true := by
    by_cases h : k ≤ 4
    · have hr : hasR k = true := by simp [hasR]; omega
      have := b1 h
      simp [numF, hr]
      omega
    · have hr : hasR k = false := by simp [hasR]; omega
      have := b2 (by omega)
      simp [numF, hr, this]
  rw [e1, e2]
  rfl

set_option maxHeartbeats 2000000 in
set_option maxRecDepth 100000 in
theorem write_ok (m k ns nr : Nat) (a : Int) (p : Bool) (q : Option Addr) (l : List UInt8) (c : Nat) (w : World) (ok : NumOk m k ns nr) (ha : isAddr a = true) (hi : infoF m k l.length = true) (hC : Ctl w) (hs : 0 < w.heap.size) (hsrc : SrcIs w q l) :
    Calls Tryz.prog 32 #[.int .i64 m, .agg #[.int .i64 a, .int .i64 k, .bool p, .int .i64 ns, .int .i64 nr, .slice q l.length c]] w fun e w' => ∃ v, e = .returned (.tuple #[v, .int .i64 0]) ∧ w'.ownsRow w.heap.size 5 1 v (1 + cbN m k + l.length) (Lib.byteCells (UInt8.ofNat a.toNat :: (ctlL m k ns nr p ++ l))) ∧ Below w.heap.size w w' := by
  have c1 := fun w => isModulo_any m w
  have c2 := fun w => isKind_any k w
  have c3 := fun w => numbersFit_any m a k ns nr p (.slice q l.length c) w
  have c4 := fun w => isAddress_any a w
  have c5 := fun w => infoFits_any m k l.length w
  have hm : isMod m = true := by rcases ok.1 with rfl | rfl <;> rfl
  have hk : isKd k = true := by have := ok.2.1; have := ok.2.2.1; simp [isKd]; omega
  have hn : (numF m ns (hasS k) && numF m nr (hasR k)) = true := numOk_true ok
  rw [hm] at c1
  rw [hk] at c2
  rw [hn] at c3
  rw [ha] at c4
  rw [hi] at c5
  clear hm hk hn
  have hb0 : ∀ o, Below w.heap.size w (w.alloc o) := fun o => (Below.refl _ w).alloc (Nat.le_refl _) o
  go_enter Tryz.func32, Tryz.ntmps32
  go_wp2_with fail
  refine (c1 _).mono ?_
  rintro e W1 ⟨rfl, rfl⟩
  go_wp2_with fail
  refine (c2 _).mono ?_
  rintro e W1 ⟨rfl, rfl⟩
  go_wp2_with fail
  refine (c3 _).mono ?_
  rintro e W1 ⟨rfl, hb⟩
  have r0 : W1.cell? ⟨w.heap.size, 0, none⟩ = some (.int .i64 a) := by rw [hb.cell (p := ⟨w.heap.size, 0, none⟩) (by simp)]; simp
  have r1 : W1.cell? ⟨w.heap.size, 1, none⟩ = some (.int .i64 k) := by rw [hb.cell (p := ⟨w.heap.size, 1, none⟩) (by simp)]; simp
  have r2 : W1.cell? ⟨w.heap.size, 2, none⟩ = some (.bool p) := by rw [hb.cell (p := ⟨w.heap.size, 2, none⟩) (by simp)]; simp
  have r3 : W1.cell? ⟨w.heap.size, 3, none⟩ = some (.int .i64 ns) := by rw [hb.cell (p := ⟨w.heap.size, 3, none⟩) (by simp)]; simp
  have r4 : W1.cell? ⟨w.heap.size, 4, none⟩ = some (.int .i64 nr) := by rw [hb.cell (p := ⟨w.heap.size, 4, none⟩) (by simp)]; simp
  have r5 : W1.cell? ⟨w.heap.size, 5, none⟩ = some (.slice q l.length c) := by rw [hb.cell (p := ⟨w.heap.size, 5, none⟩) (by simp)]; simp
  go_wp2_with fail
  refine (c4 _).mono ?_
  rintro e W2 ⟨rfl, rfl⟩
  go_wp2_with fail
  refine (c5 _).mono ?_
  rintro e W2 ⟨rfl, rfl⟩
  go_wp2
  obtain ⟨x, hx, hwa⟩ : ∃ x : UInt8, UInt8.ofNat a.toNat = x ∧ IntKind.u8.wrap a = (x.toNat : Int) := ⟨_, rfl, addr_byte ha⟩
  have hcl : (ctlL m k ns nr p).length = cbN m k := by unfold ctlL cbN; split <;> rfl
  have hc2 : cbN m k ≤ 2 := by unfold cbN; split <;> omega
  have hl : l.length ≤ 32 := by
    unfold infoF repN at hi
    split at hi
    · have := of_decide_eq_true hi; omega
    · split at hi
      · have := eq_of_beq hi; split at this <;> omega
      · have := eq_of_beq hi; omega
  have hW : w.heap.size + 1 ≤ W2.heap.size := by have := hb.size; simp at this; exact this
  have hB1 : Held w.heap.size W2 a k p ns nr (.slice q l.length c) W2 := ⟨r0, r1, r2, r3, r4, r5, Below.refl _ _⟩
  have hwW : Below w.heap.size w W2 := (hb0 _).trans (hb.mono (by simp))
  have hCW : Ctl W2 := hC.below hwW hs
  clear c1 c2 c3 c4 c5 hb r0 r1 r2 r3 r4 r5 hb0
  go_region_held3 (fun w' => Held w.heap.size W2 a k p ns nr (.slice q l.length c) w') (first | exact Held.drew (by assumption) | exact Held.alloc (by assumption) hW _ | exact Held.of (by assumption) (by assumption) (by have h : Held w.heap.size W2 a k p ns nr (.slice q l.length c) _ := (by assumption); exact Nat.le_trans hW h.2.2.2.2.2.2.size)) (first | (go_at_call 77; have hh : Held w.heap.size W2 a k p ns nr (.slice q l.length c) _ := (by assumption); refine (control_any m k ns nr a p _ _ (hCW.below hh.2.2.2.2.2.2 (by omega)) (by have := hh.2.2.2.2.2.2.size; omega) ok).mono ?_; clear hh; rintro e w' ⟨b, rfl, hb1, hb2, hseg, hbl⟩) | (go_at_call 76; have hq : Below W2.drew.heap.size W2.drew w' := (by assumption); refine (catB hwW hq hseg hb2 hsrc hcl hc2 hl).mono ?_; clear hq; rintro e w'' ⟨v, rfl, hown, hbl2, hbw⟩) | (go_at_call 76; have hq : Below (W2.alloc (.cells #[.int .u8 (x.toNat : Int)] 5)).drew.heap.size (W2.alloc (.cells #[.int .u8 (x.toNat : Int)] 5)).drew w' := (by assumption); refine (catA hwW hq hseg hb2 hsrc hcl hc2 hl).mono ?_; clear hq; rintro e w'' ⟨v, rfl, hown, hbl2, hbw⟩))
  all_goals (go_wp2; exact bodyPost_ret (v := .tuple #[v, .int .i64 0]) (by simp [results, Tryz.results32, go_sem]) rfl ⟨v, rfl, by rw [hx]; exact hown, hbw.out⟩)

theorem numOk_of {m k ns nr : Int} (h : (isMod m && isKd k && (numF m ns (hasS k) && numF m nr (hasR k))) = true) : ∃ m' k' ns' nr' : Nat, m = m' ∧ k = k' ∧ ns = ns' ∧ nr = nr' ∧ NumOk m' k' ns' nr' := by
  simp only [Bool.and_eq_true] at h
  obtain ⟨⟨hm, hk⟩, h1, h2⟩ := h
  have hm' : m = 8 ∨ m = 128 := by simpa [isMod] using hm
  have hk' : 1 ≤ k ∧ k ≤ 9 := by simpa [isKd] using hk
  have q1 : 0 ≤ ns ∧ (k = 1 → ns < m) ∧ (k ≠ 1 → ns = 0) := by
    by_cases e : k = 1
    · simp [numF, hasS, e] at h1; omega
    · simp [numF, hasS, e] at h1; omega
  have q2 : 0 ≤ nr ∧ (k ≤ 4 → nr < m) ∧ (4 < k → nr = 0) := by
    by_cases e : k ≤ 4
    · have hr : hasR k = true := by simp [hasR]; omega
      simp [numF, hr] at h2; omega
    · have hr : hasR k = false := by simp [hasR]; omega
      simp [numF, hr] at h2; omega
  exact ⟨m.toNat, k.toNat, ns.toNat, nr.toNat, by omega, by omega, by omega, by omega, by omega, by omega, by omega, by omega, by omega, by omega, by omega⟩

/-- Write, at whatever numbers. -/
theorem write_any (m : Int) (f : Fr) (q : Option Addr) (c : Nat) (w : World) (hC : Ctl w) (hs : 0 < w.heap.size) (hsrc : SrcIs w q f.info) :
    Calls Tryz.prog 32 #[.int .i64 m, frV f q c] w fun e w' => ∃ v, e = .returned (.tuple #[v, .int .i64 ((writeL m f).1 : Nat)]) ∧ w'.ownsRow w.heap.size 5 1 v (writeL m f).2.length (Lib.byteCells (writeL m f).2) ∧ ((writeL m f).1 ≠ 0 → v = .slice none 0 0) ∧ Below w.heap.size w w' := by
  unfold frV writeL
  by_cases h1 : (isMod m && isKd f.k && numF m f.ns (hasS f.k) && numF m f.nr (hasR f.k)) = false
  · rw [if_pos h1]
    refine (write_arg m f.a f.k f.ns f.nr f.p _ w (by rw [← Bool.and_assoc]; exact h1)).mono ?_
    rintro e w' ⟨rfl, hb⟩
    exact ⟨_, rfl, owns_nil _ _, fun _ => rfl, hb⟩
  · rw [if_neg h1]
    have h1' : (isMod m && isKd f.k && (numF m f.ns (hasS f.k) && numF m f.nr (hasR f.k))) = true := by rw [← Bool.and_assoc]; exact eq_true_of_ne_false h1
    by_cases h2 : isAddr f.a = false
    · rw [if_pos h2]
      refine (write_addr m f.a f.k f.ns f.nr f.p _ w h1' h2).mono ?_
      rintro e w' ⟨rfl, hb⟩
      exact ⟨_, rfl, owns_nil _ _, fun _ => rfl, hb⟩
    · rw [if_neg h2]
      have h2' : isAddr f.a = true := by simpa using h2
      by_cases h3 : infoF m f.k f.info.length = false
      · rw [if_pos h3]
        refine (write_info m f.a f.k f.ns f.nr f.p q f.info.length c w h1' h2' h3).mono ?_
        rintro e w' ⟨rfl, hb⟩
        exact ⟨_, rfl, owns_nil _ _, fun _ => rfl, hb⟩
      · rw [if_neg h3]
        have h3' : infoF m f.k f.info.length = true := by simpa using h3
        obtain ⟨m', k', ns', nr', em, ek, es, er, ok⟩ := numOk_of h1'
        rw [em, ek, es, er]
        rw [em, ek] at h3'
        refine (write_ok m' k' ns' nr' f.a f.p q f.info c w ok h2' h3' hC hs hsrc).mono ?_
        rintro e w' ⟨v, rfl, hown, hb⟩
        refine ⟨v, rfl, ?_, fun h => absurd rfl h, hb⟩
        simp only [Int.toNat_natCast]
        have e1 : (UInt8.ofNat f.a.toNat :: (ctlL m' k' ns' nr' f.p ++ f.info)).length = 1 + cbN m' k' + f.info.length := by
          have : (ctlL m' k' ns' nr' f.p).length = cbN m' k' := by unfold ctlL cbN; split <;> rfl
          simp [this]; omega
        rw [e1]
        exact hown
end Go.Proofs.YtkalonhalhdlaaaGreatDoor
