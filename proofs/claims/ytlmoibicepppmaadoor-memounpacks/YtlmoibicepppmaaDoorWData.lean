/-
  The bytes and the manifest, taken off a letter.
-/
import Derived.Test.YtlmoibicepppmaaDoorWNum
namespace Go.Proofs.YtlmoibicepppmaaDoor
open Go.ChangeShapes Go.WideShapes Go.ChangeAt Go.RowKit Go.Deep Me
set_option maxRecDepth 100000
theorem next_skip (tag : Int) (L : Nat) (v : Value) (l : List (Int × ByteArray)) (w : World) (h : Lt w L v l) (hl : ∀ x, l.head? = some x → x.1 ≠ tag) : Calls Tryd.prog 70 #[.pointer (some ⟨L, 0, none⟩), .int .i64 tag] w fun e w' => e = .returned (.tuple #[.agg #[.string ⟨#[]⟩], .bool false]) ∧ Below w.heap.size w w' := by
  match l, h, hl with
  | [], h, _ => exact next_nil tag L v w h
  | (t, s) :: l, h, hl => exact next_no tag t s l L v w h (hl _ rfl)
theorem data_skip (L : Nat) (v : Value) (l : List (Int × ByteArray)) (w : World) (h : Lt w L v l) (hl : ∀ x, l.head? = some x → x.1 ≠ 13) : Calls Tryd.prog 66 #[.pointer (some ⟨L, 0, none⟩)] w fun e w' => e = .returned (.string ⟨#[]⟩) ∧ Below w.heap.size w w' := by
  have HN : Hid (Lt w L v l ∧ ∀ x, l.head? = some x → x.1 ≠ 13) := ⟨h, hl⟩
  clear h hl
  go_enter Tryd.func66, Tryd.ntmps66
  go_wp2_with fail
  refine (next_skip 13 L v l _ HN.out.1 HN.out.2).mono ?_
  rintro e w1 ⟨rfl, hb1⟩
  have HB : Hid (Below w.heap.size w (w1.alloc (BV ⟨#[]⟩))) := bup hb1 (below_alloc _ _)
  clear hb1
  go_wp2_with fail
  refine (need_yes _).mono ?_
  rintro e w3 ⟨rfl, rfl⟩
  go_wp2
  go_ret
  exact ⟨rfl, HB.out⟩
set_option maxRecDepth 100000 in
theorem data_full (L : Nat) (v : Value) (s : ByteArray) (l : List (Int × ByteArray)) (w : World) (h : Lt w L v ((13, s) :: l)) (hs : ¬ s.size = 0) : Calls Tryd.prog 66 #[.pointer (some ⟨L, 0, none⟩)] w fun e w' => e = .returned (.string s) ∧ (∃ v', Lt w' L v' l) ∧ w.grownBy w' (some L) := by
  have HL : Hid (Lt w L v ((13, s) :: l)) := h
  have hem := toList_full hs
  clear h hs
  go_enter Tryd.func66, Tryd.ntmps66
  go_wp2_with fail
  refine (next_yes 13 s l L v _ HL.out).mono ?_
  rintro e w1 ⟨rfl, ⟨v1, hl1⟩, hg1⟩
  have HG : Hid (w.grownBy (w1.alloc (BV s)) (some L)) := grown_trans hg1 (grown_of_below (below_alloc _ _) _)
  have HL1 : Hid (Lt (w1.alloc (BV s)) L v1 l) := hl1.up (below_alloc _ _)
  clear hg1 hl1
  go_wp2_with fail
  refine (need_yes _).mono ?_
  rintro e w3 ⟨rfl, rfl⟩
  go_wp2
  go_ret
  exact ⟨rfl, ⟨v1, HL1.out⟩, HG.out⟩
set_option maxRecDepth 100000 in
theorem data_bad (L : Nat) (v : Value) (s : ByteArray) (l : List (Int × ByteArray)) (w : World) (h : Lt w L v ((13, s) :: l)) (hs : s.size = 0) : Calls Tryd.prog 66 #[.pointer (some ⟨L, 0, none⟩)] w fun e w' => e = PB ∧ w.grownBy w' (some L) := by
  have HL : Hid (Lt w L v ((13, s) :: l)) := h
  have hem := toList_none hs
  clear h hs
  go_enter Tryd.func66, Tryd.ntmps66
  go_wp2_with fail
  refine (next_yes 13 s l L v _ HL.out).mono ?_
  rintro e w1 ⟨rfl, ⟨v1, hl1⟩, hg1⟩
  have HG : Hid (w.grownBy (w1.alloc (BV s)) (some L)) := grown_trans hg1 (grown_of_below (below_alloc _ _) _)
  clear hg1 hl1
  go_wp2_with fail
  refine (need_no _).mono ?_
  rintro e w3 ⟨rfl, rfl⟩
  go_wp2
  simp [bodyPost]
  exact HG.out
/-- The bytes, off a list of fields. -/
def pData : List (Int × ByteArray) → Option (ByteArray × List (Int × ByteArray))
  | [] => some (⟨#[]⟩, [])
  | (t, s) :: l => if t = 13 then (if s.size = 0 then none else some (s, l)) else some (⟨#[]⟩, (t, s) :: l)
theorem data_any (L : Nat) (v : Value) (l : List (Int × ByteArray)) (w : World) (h : Lt w L v l) : Calls Tryd.prog 66 #[.pointer (some ⟨L, 0, none⟩)] w (Rd L w (pData l) fun a u _ => u = .string a) := by
  match l, h with
  | [], h =>
    refine (data_skip L v [] w h (by simp)).mono ?_
    rintro e w' ⟨rfl, hb⟩
    refine ⟨grown_of_below hb _, ?_, fun h => by simp [pData] at h⟩
    rintro a r e
    simp only [pData, Option.some.injEq, Prod.mk.injEq] at e
    obtain ⟨rfl, rfl⟩ := e
    exact ⟨⟨_, rfl, rfl⟩, v, h.up hb⟩
  | (t, s) :: l, h =>
    by_cases ht : t = 13
    · subst ht
      by_cases hz : s.size = 0
      · refine (data_bad L v s l w h hz).mono ?_
        rintro e w' ⟨rfl, hg⟩
        refine ⟨hg, ?_, fun _ => rfl⟩
        rintro a r e
        simp [pData, hz] at e
      · refine (data_full L v s l w h hz).mono ?_
        rintro e w' ⟨rfl, hl, hg⟩
        refine ⟨hg, ?_, fun h => by simp [pData, hz] at h⟩
        rintro a r e
        simp only [pData, if_true, if_neg hz, Option.some.injEq, Prod.mk.injEq] at e
        obtain ⟨rfl, rfl⟩ := e
        exact ⟨⟨_, rfl, rfl⟩, hl⟩
    · refine (data_skip L v ((t, s) :: l) w h (by rintro x hx; simp at hx; subst hx; exact ht)).mono ?_
      rintro e w' ⟨rfl, hb⟩
      refine ⟨grown_of_below hb _, ?_, fun h => by simp [pData, ht] at h⟩
      rintro a r e
      simp only [pData, if_neg ht, Option.some.injEq, Prod.mk.injEq] at e
      obtain ⟨rfl, rfl⟩ := e
      exact ⟨⟨_, rfl, rfl⟩, v, h.up hb⟩
end Go.Proofs.YtlmoibicepppmaaDoor
