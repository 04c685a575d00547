/-
  alarm's Set, Stop, Due and Next, each in one sentence.
-/
import Derived.Test.YtlhobncpifklkaaInts
import Derived.Test.YtlhobncpifklkaaRowsOf
namespace Go.Proofs.Ytlhobncpifklkaa
open Go.RowKit Go.Maps

namespace Al
def setErr (L : List (Int × Int)) (n a : Int) : Int := if fits n ∧ fits a then (if find L n = none ∧ 256 ≤ L.length then 5 else 0) else 1
def setTo (L : List (Int × Int)) (n a : Int) : List (Int × Int) := if setErr L n a = 0 then set L n a else L
def stopErr (n : Int) : Int := if fits n then 0 else 1
def stopWas (L : List (Int × Int)) (n : Int) : Bool := if fits n then (find L n).isSome else false
def stopTo (L : List (Int × Int)) (n : Int) : List (Int × Int) := if fits n then drop L n else L
def dueErr (now : Int) : Int := if fits now then 0 else 1
def dueOf (L : List (Int × Int)) (now : Int) : List Int := if fits now then due L now else []
def dueTo (L : List (Int × Int)) (now : Int) : List (Int × Int) := if fits now then rest L now else L
end Al

theorem set_any {s bm : Nat} {L : List (Int × Int)} {n a : Int} (w : World) (hk : ClockAt w s bm L) :
    Calls Try.prog 11 #[.pointer (some ⟨s, 0, none⟩), .int .i64 n, .int .i64 a] w fun e w' => e = .returned (.int .i64 (Al.setErr L n a)) ∧ ClockAt w' s bm (Al.setTo L n a) ∧ w.grownBy w' (some bm) := by
  unfold Al.setTo Al.setErr
  by_cases h : Al.fits n ∧ Al.fits a
  · rw [if_pos h]
    by_cases hf : Al.find L n = none ∧ 256 ≤ L.length
    · rw [if_pos hf]
      exact (setFull_any w hk h hf.1 hf.2).mono fun _ _ ⟨he, hw⟩ => ⟨he, by subst hw; exact hk, by subst hw; exact grown_refl _ _⟩
    · rw [if_neg hf, if_pos rfl]
      refine setOk_any w hk h ?_
      cases hx : Al.find L n with
      | none =>
        right
        have : ¬ 256 ≤ L.length := fun hl => hf ⟨hx, hl⟩
        omega
      | some x => exact .inl rfl
  · rw [if_neg h]
    exact (setArg_any _ w h).mono fun _ _ ⟨he, hw⟩ => ⟨he, by subst hw; exact hk, by subst hw; exact grown_refl _ _⟩
theorem stop_any {s bm : Nat} {L : List (Int × Int)} {n : Int} (w : World) (hk : ClockAt w s bm L) :
    Calls Try.prog 13 #[.pointer (some ⟨s, 0, none⟩), .int .i64 n] w fun e w' => e = .returned (.tuple #[.bool (Al.stopWas L n), .int .i64 (Al.stopErr n)]) ∧ ClockAt w' s bm (Al.stopTo L n) ∧ w.grownBy w' (some bm) := by
  unfold Al.stopWas Al.stopErr Al.stopTo
  by_cases h : Al.fits n
  · rw [if_pos h, if_pos h, if_pos h]
    exact stopOk_any w hk h
  · rw [if_neg h, if_neg h, if_neg h]
    exact (stopArg_any _ w h).mono fun _ _ ⟨he, hw⟩ => ⟨he, by subst hw; exact hk, by subst hw; exact grown_refl _ _⟩
theorem due_any {s bm : Nat} {L : List (Int × Int)} {now : Int} (w : World) (hk : ClockAt w s bm L) :
    Calls Try.prog 15 #[.pointer (some ⟨s, 0, none⟩), .int .i64 now] w fun e w' => ∃ v, e = .returned (.tuple #[v, .int .i64 (Al.dueErr now)]) ∧ w'.ownsRow w.heap.size 3 1 v (Al.dueOf L now).length ((Al.dueOf L now).map (Value.int .i64)) ∧ ClockAt w' s bm (Al.dueTo L now) ∧ w.grownBy w' (some bm) := by
  unfold Al.dueErr Al.dueOf Al.dueTo
  by_cases h : Al.fits now
  · rw [if_pos h, if_pos h, if_pos h]
    exact dueOk_any w hk h
  · rw [if_neg h, if_neg h, if_neg h]
    exact (dueArg_any _ w h).mono fun _ _ ⟨he, hw⟩ => ⟨_, he, World.ownsRow_nil _ _ _ _, by subst hw; exact hk, by subst hw; exact grown_refl _ _⟩
theorem next_any {s bm : Nat} {L : List (Int × Int)} (w : World) (hk : ClockAt w s bm L) :
    Calls Try.prog 19 #[.pointer (some ⟨s, 0, none⟩)] w fun e w' => e = .returned (.tuple #[.int .i64 (Al.next L), .bool (decide (0 < L.length))]) ∧ w.grownBy w' none := by
  cases L with
  | nil => exact (nextNone_any w hk).mono fun _ _ ⟨he, hw⟩ => ⟨he, by subst hw; exact grown_refl _ _⟩
  | cons p L => exact nextSome_any w hk (by simp)

namespace Al
/-- A clock that was made of these alarms, whatever their order. -/
structure Made (L P : List (Int × Int)) : Prop where
  good : Good L
  mem : ∀ n a, find L n = some a ↔ (n, a) ∈ P ∧ fits n ∧ fits a
  len : L.length ≤ P.length
theorem made_nil : Made [] [] := ⟨good_nil, fun n a => by simp [find_nil], by simp⟩
theorem Made.step {L P P' : List (Int × Int)} (h : Made L P) {n a : Int} (hn : ∀ b, (n, b) ∉ P) (hP : ∀ x, x ∈ P' ↔ x ∈ P ∨ x = (n, a)) (hl : P'.length = P.length + 1) (hm : P.length < 256) : Made (setTo L n a) P' := by
  have hf : find L n = none := by
    cases hx : find L n with
    | none => rfl
    | some b => exact absurd ((h.mem n b).1 hx).1 (hn b)
  unfold setTo setErr
  have hlen := h.len
  by_cases hb : fits n ∧ fits a
  · have e0 : (if find L n = none ∧ 256 ≤ L.length then (5 : Int) else 0) = 0 := if_neg (fun hh => by omega)
    rw [if_pos hb, e0, if_pos rfl]
    refine ⟨h.good.set hb.1 hb.2 (.inr (by omega)), fun m c => ?_, ?_⟩
    · by_cases e : m = n
      · subst e
        rw [find_set_same]
        constructor
        · rintro ⟨⟩
          exact ⟨(hP _).2 (.inr rfl), hb⟩
        · rintro ⟨hx, _⟩
          rcases (hP _).1 hx with hx | hx
          · exact absurd hx (hn c)
          · cases hx
            rfl
      · rw [find_set_other L a e, h.mem m c, hP]
        simp [e]
    · rw [length_set h.good.nodup, hf]
      simp
      omega
  · rw [if_neg hb, if_neg (by omega)]
    refine ⟨h.good, fun m c => ?_, by omega⟩
    rw [h.mem m c, hP]
    constructor
    · rintro ⟨h1, h2⟩
      exact ⟨.inl h1, h2⟩
    · rintro ⟨h1 | h1, h2⟩
      · exact ⟨h1, h2⟩
      · cases h1
        exact absurd h2 hb
theorem Made.unique {L L' P : List (Int × Int)} (h : Made L P) (h' : Made L' P) : L = L' := by
  have nd : ∀ {M : List (Int × Int)}, Good M → M.Nodup := fun {M} hG => hG.nodup.imp fun hab e => hab (by rw [e])
  have hm : ∀ x, x ∈ L ↔ x ∈ L' := fun x => by
    constructor
    · intro hx
      exact mem_of_find ((h'.mem _ _).2 ((h.mem _ _).1 (find_of_mem (a := x.2) h.good.nodup hx)))
    · intro hx
      exact mem_of_find ((h.mem _ _).2 ((h'.mem _ _).1 (find_of_mem (a := x.2) h'.good.nodup hx)))
  refine List.Perm.eq_of_pairwise (le := before) (fun a b _ _ h1 h2 => ?_) h.good.sorted h'.good.sorted ((List.perm_ext_iff_of_nodup (nd h.good) (nd h'.good)).2 hm)
  simp only [before] at h1 h2
  omega
end Al
end Go.Proofs.Ytlhobncpifklkaa
