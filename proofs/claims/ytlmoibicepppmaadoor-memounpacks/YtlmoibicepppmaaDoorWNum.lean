/-
  The number of a tag, taken off a letter.
-/
import Derived.Test.YtlmoibicepppmaaDoorWNeed
namespace Go.Proofs.YtlmoibicepppmaaDoor
open Go.ChangeShapes Go.WideShapes Go.ChangeAt Go.RowKit Go.Deep Me
set_option maxRecDepth 100000
theorem grown_off {w w' : World} (h : Below w.heap.size w w') (row : Option Nat) : w.grownBy w' row := grown_of_below h row
/-- What is turned is the letter's box alone, and blocks that are new. -/
theorem grown_new {w w1 w2 : World} {L X : Nat} (h1 : w.grownBy w1 (some L)) (hX : w.heap.size ≤ X) (h2 : w1.grownBy w2 (some X)) : w.grownBy w2 (some L) :=
  ⟨h2.os.trans h1.os, h2.tape.trans h1.tape, h2.output.trans h1.output, Nat.le_trans h1.size h2.size, fun k hk hne => (h2.block k (Nat.lt_of_lt_of_le hk h1.size) (by simp; omega)).trans (h1.block k hk hne)⟩
theorem Lt.grown {w w' : World} {L X : Nat} {v : Value} {l : List (Int × ByteArray)} (h : Lt w L v l) (hX : L < X) (hg : w.grownBy w' (some X)) : Lt w' L v l := by
  have hL := h.box.lt
  refine ⟨h.box.kept hg (by simp; omega), h.row.below (C := L) ⟨hg.os, hg.tape, hg.output, hg.size, fun k hk => hg.block k (by omega) (by simp; omega)⟩ (Nat.le_refl _)⟩
theorem toList_full {s : ByteArray} (h : ¬ s.size = 0) : s.toList.isEmpty = false := by
  rw [ByteArray.toList_eq, ← Bool.not_eq_true, List.isEmpty_iff]
  intro h2
  apply h
  have : s.data.toList.length = 0 := by rw [h2]; rfl
  simpa using this
theorem toList_none {s : ByteArray} (h : s.size = 0) : s.toList.isEmpty = true := by
  rw [ByteArray.toList_eq, List.isEmpty_iff]
  apply List.eq_nil_of_length_eq_zero
  simpa using h
theorem lnum_skip (tag z : Int) (L : Nat) (v : Value) (l : List (Int × ByteArray)) (w : World) (h : Lt w L v l) (hl : ∀ x, l.head? = some x → x.1 ≠ tag) : Calls Tryd.prog 62 #[.pointer (some ⟨L, 0, none⟩), .int .i64 tag, .int .i64 z] w fun e w' => e = .returned (.int .i64 0) ∧ Below w.heap.size w w' := by
  have HN : Hid (∀ V, Lt V L v l → Calls Tryd.prog 70 #[.pointer (some ⟨L, 0, none⟩), .int .i64 tag] V fun e w' => e = .returned (.tuple #[.agg #[.string ⟨#[]⟩], .bool false]) ∧ Below V.heap.size V w') := fun V hV => by
    match l, hV, hl with
    | [], hV, _ => exact next_nil tag L v V hV
    | (t, s) :: l, hV, hl => exact next_no tag t s l L v V hV (hl _ rfl)
  have HL : Hid (Lt w L v l) := h
  clear h hl
  go_enter Tryd.func62, Tryd.ntmps62
  go_wp2_with fail
  refine (HN.out _ HL.out).mono ?_
  rintro e w1 ⟨rfl, hb1⟩
  have HB : Hid (Below w.heap.size w w1) := hb1
  clear hb1
  go_wp2
  go_ret
  exact ⟨rfl, bup HB.out (below_alloc _ _)⟩
set_option maxRecDepth 100000 in
theorem lnum_short (tag : Int) (z : Int) (L : Nat) (v : Value) (s : ByteArray) (l : List (Int × ByteArray)) (w : World) (h : Lt w L v ((tag, s) :: l)) (hz : (s.size : Int) < z) : Calls Tryd.prog 62 #[.pointer (some ⟨L, 0, none⟩), .int .i64 tag, .int .i64 z] w fun e w' => e = PB ∧ w.grownBy w' (some L) := by
  have HL : Hid (Lt w L v ((tag, s) :: l)) := h
  have HZ : Hid ((s.size : Int) < z) := hz
  clear h hz
  go_enter Tryd.func62, Tryd.ntmps62
  go_wp2_with fail
  refine (next_yes tag s l L v _ HL.out).mono ?_
  rintro e w1 ⟨rfl, -, hg1⟩
  have HG : Hid (w.grownBy w1 (some L)) := hg1
  clear hg1
  go_wp2_with fail
  refine (vnum_no s z _ _ (Boxed.new _ _ _) HZ.out).mono ?_
  rintro e w2 ⟨rfl, hb2⟩
  have HG2 : Hid (w.grownBy w2 (some L)) := grown_trans HG.out (grown_of_below (bup (below_alloc _ _) hb2) _)
  clear hb2
  go_wp2
  simp [bodyPost]
  exact HG2.out
set_option maxRecDepth 100000 in
theorem lnum_bad (tag : Int) (z : Nat) (L : Nat) (v : Value) (s : ByteArray) (l : List (Int × ByteArray)) (w : World) (h : Lt w L v ((tag, s) :: l)) (hz : z ≤ s.size) (hs : s.size ≤ 1099511627776) (hb : Pl.numVal (s.extract 0 z) = 0 ∨ z < s.size) : Calls Tryd.prog 62 #[.pointer (some ⟨L, 0, none⟩), .int .i64 tag, .int .i64 z] w fun e w' => e = PB ∧ w.grownBy w' (some L) := by
  have HL : Hid (Lt w L v ((tag, s) :: l)) := h
  have HZ : Hid (z ≤ s.size ∧ s.size ≤ 1099511627776) := ⟨hz, hs⟩
  have HE : Hid (z < s.size → (s.extract z s.size).toList.isEmpty = false) := fun h => toList_full (by rw [ByteArray.size_extract]; omega)
  clear h hz hs
  go_enter Tryd.func62, Tryd.ntmps62
  go_wp2_with fail
  refine (next_yes tag s l L v _ HL.out).mono ?_
  rintro e w1 ⟨rfl, -, hg1⟩
  have HG : Hid (w.grownBy w1 (some L)) := hg1
  clear hg1
  go_wp2_with fail
  refine (vnum_yes s z _ _ (Boxed.new _ _ _) HZ.out.1 HZ.out.2).mono ?_
  rintro e w2 ⟨rfl, hv2, hg2⟩
  have HG2 : Hid (w.grownBy w2 (some L)) := grown_new (grown_trans HG.out (grown_of_below (below_alloc _ _) _)) HG.out.size hg2
  have hc := hv2.cell
  clear hv2 hg2
  by_cases hn : Pl.numVal (s.extract 0 z) = 0
  · have hn' : (Pl.numVal (s.extract 0 z) != 0) = false := by rw [hn]; rfl
    go_wp2_with fail
    refine (need_no _).mono ?_
    rintro e w3 ⟨rfl, rfl⟩
    go_wp2
    simp [bodyPost]
    exact HG2.out
  · have hn' : (Pl.numVal (s.extract 0 z) != 0) = true := by simpa using hn
    have hem := HE.out (by omega)
    go_wp2_with fail
    refine (need_no _).mono ?_
    rintro e w3 ⟨rfl, rfl⟩
    go_wp2
    simp [bodyPost]
    exact HG2.out
theorem extract_all' (s : ByteArray) : s.extract 0 s.size = s := by
  rw [Pl.extract_txt, List.take_of_length_le (by simp), List.drop_zero, Pl.txt_toList]
set_option maxRecDepth 100000 in
theorem lnum_ok (tag : Int) (z : Nat) (L : Nat) (v : Value) (s : ByteArray) (l : List (Int × ByteArray)) (w : World) (h : Lt w L v ((tag, s) :: l)) (hz : s.size = z) (hs : s.size ≤ 1099511627776) (hb : Pl.numVal s ≠ 0) : Calls Tryd.prog 62 #[.pointer (some ⟨L, 0, none⟩), .int .i64 tag, .int .i64 z] w fun e w' => e = .returned (.int .i64 (Pl.numVal s)) ∧ (∃ v', Lt w' L v' l) ∧ w.grownBy w' (some L) := by
  have HL : Hid (Lt w L v ((tag, s) :: l)) := h
  have hLt := h.box.lt
  have HZ : Hid (z ≤ s.size ∧ s.size ≤ 1099511627776) := ⟨by omega, hs⟩
  have hem : (s.extract z s.size).toList.isEmpty = true := toList_none (by rw [ByteArray.size_extract]; omega)
  have HX : Hid (s.extract 0 z = s) := by show _ = _; rw [← hz]; exact extract_all' s
  have hn' : (Pl.numVal s != 0) = true := by simpa using hb
  clear h hz hs
  go_enter Tryd.func62, Tryd.ntmps62
  go_wp2_with fail
  refine (next_yes tag s l L v _ HL.out).mono ?_
  rintro e w1 ⟨rfl, ⟨v1, hl1⟩, hg1⟩
  have HG : Hid (w.grownBy w1 (some L)) := hg1
  have HL1 : Hid (Lt w1 L v1 l) := hl1
  clear hg1 hl1
  go_wp2_with fail
  refine (vnum_yes s z _ _ (Boxed.new _ _ _) HZ.out.1 HZ.out.2).mono ?_
  rintro e w2 ⟨rfl, hv2, hg2⟩
  rw [HX.out]
  have HG2 : Hid (w.grownBy w2 (some L)) := grown_new (grown_trans HG.out (grown_of_below (below_alloc _ _) _)) HG.out.size hg2
  have HL2 : Hid (Lt w2 L v1 l) := (HL1.out.up (below_alloc _ _)).grown (by have := HL1.out.box.lt; omega) hg2
  have hc := hv2.cell
  clear hv2 hg2
  go_wp2_with fail
  refine (need_yes _).mono ?_
  rintro e w3 ⟨rfl, rfl⟩
  go_wp2
  go_ret
  exact ⟨rfl, ⟨v1, HL2.out⟩, HG2.out⟩
/-- The number of a tag, off a list of fields. -/
def pNum (tag : Int) (z : Nat) : List (Int × ByteArray) → Option (Int × List (Int × ByteArray))
  | [] => some (0, [])
  | (t, s) :: l => if t = tag then (if s.size = z ∧ Pl.numVal s ≠ 0 then some (Pl.numVal s, l) else none) else some (0, (t, s) :: l)
/-- What a reader leaves behind: an answer and the fields that are left, or it gave up. -/
def Rd {α : Type} (L : Nat) (w : World) (q : Option (α × List (Int × ByteArray))) (A : α → Value → World → Prop) (e : Ending) (w' : World) : Prop :=
  w.grownBy w' (some L) ∧ (∀ a r, q = some (a, r) → (∃ u, e = .returned u ∧ A a u w') ∧ ∃ v', Lt w' L v' r) ∧ (q = none → e = PB)
theorem lnum_any (tag : Int) (z : Nat) (L : Nat) (v : Value) (l : List (Int × ByteArray)) (w : World) (h : Lt w L v l) (hs : ∀ x ∈ l, x.2.size ≤ 65535) : Calls Tryd.prog 62 #[.pointer (some ⟨L, 0, none⟩), .int .i64 tag, .int .i64 z] w (Rd L w (pNum tag z l) fun a u _ => u = .int .i64 a) := by
  match l, h, hs with
  | [], h, hs =>
    refine (lnum_skip tag z L v [] w h (by simp)).mono ?_
    rintro e w' ⟨rfl, hb⟩
    refine ⟨grown_of_below hb _, ?_, fun h => by simp [pNum] at h⟩
    rintro a r e
    simp only [pNum, Option.some.injEq, Prod.mk.injEq] at e
    obtain ⟨rfl, rfl⟩ := e
    exact ⟨⟨_, rfl, rfl⟩, v, h.up hb⟩
  | (t, s) :: l, h, hs =>
    have hss := hs _ (List.mem_cons_self ..)
    simp only at hss
    by_cases ht : t = tag
    · subst ht
      by_cases hz : s.size = z ∧ Pl.numVal s ≠ 0
      · refine (lnum_ok t z L v s l w h hz.1 (by omega) hz.2).mono ?_
        rintro e w' ⟨rfl, hl, hg⟩
        refine ⟨hg, ?_, fun h => by simp [pNum, hz] at h⟩
        rintro a r e
        simp only [pNum, if_true, if_pos hz, Option.some.injEq, Prod.mk.injEq] at e
        obtain ⟨rfl, rfl⟩ := e
        exact ⟨⟨_, rfl, rfl⟩, hl⟩
      · have hq : pNum t z ((t, s) :: l) = none := by simp only [pNum, if_true, if_neg hz]
        have hcl : ∀ (e : Ending) (w' : World), (e = PB ∧ w.grownBy w' (some L)) → Rd L w (pNum t z ((t, s) :: l)) (fun a u _ => u = .int .i64 a) e w' := by
          rintro e w' ⟨rfl, hg⟩
          refine ⟨hg, ?_, fun _ => rfl⟩
          rintro a r e
          rw [hq] at e
          cases e
        by_cases hlt : s.size < z
        · exact (lnum_short t z L v s l w h (by omega)).mono hcl
        · refine (lnum_bad t z L v s l w h (by omega) (by omega) ?_).mono hcl
          by_cases he : s.size = z
          · left
            have : Pl.numVal s = 0 := Classical.byContradiction fun hn => hz ⟨he, hn⟩
            rw [← he, extract_all']
            exact this
          · right
            omega
    · refine (lnum_skip tag z L v ((t, s) :: l) w h (by rintro x hx; simp at hx; subst hx; exact ht)).mono ?_
      rintro e w' ⟨rfl, hb⟩
      refine ⟨grown_of_below hb _, ?_, fun h => by simp [pNum, ht] at h⟩
      rintro a r e
      simp only [pNum, if_neg ht, Option.some.injEq, Prod.mk.injEq] at e
      obtain ⟨rfl, rfl⟩ := e
      exact ⟨⟨_, rfl, rfl⟩, v, h.up hb⟩
end Go.Proofs.YtlmoibicepppmaaDoor
