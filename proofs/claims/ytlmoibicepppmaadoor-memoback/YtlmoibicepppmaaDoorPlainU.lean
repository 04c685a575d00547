/-
  Plain facts on unpacking (no program): the fields that bytes are, step by step.
-/
import Derived.Test.YtlmoibicepppmaaDoorPlain
import Derived.Lib.IndexBytes
namespace Go.Proofs.YtlmoibicepppmaaDoor
set_option maxRecDepth 100000
namespace Pl

def tagOf (l : List UInt8) : Int := (l.getD 0 0).toNat
def lenOf (l : List UInt8) : Nat := 256 * (l.getD 1 0).toNat + (l.getD 2 0).toNat
def stepErr (last : Int) (l : List UInt8) : Int := if l.length < 3 then 10 else if tagOf l = 0 then 4 else if tagOf l < last then 11 else if l.length - 3 < lenOf l then 10 else 0
def fieldOf (l : List UInt8) : Int × ByteArray := (tagOf l, txt ((l.drop 3).take (lenOf l)))
def join (d : List (Int × ByteArray)) (r : List (Int × ByteArray) × Int) : List (Int × ByteArray) × Int := if r.2 = 0 then (d ++ r.1, 0) else ([], r.2)
def parse : Nat → Int → List UInt8 → List (Int × ByteArray) × Int
  | 0, _, _ => ([], 0)
  | f + 1, last, l => if l = [] then ([], 0) else if stepErr last l = 0 then join [fieldOf l] (parse f (tagOf l) (l.drop (3 + lenOf l))) else ([], stepErr last l)
def unpOut (l : List UInt8) : List (Int × ByteArray) := (parse l.length 1 l).1
def unpErr (l : List UInt8) : Int := (parse l.length 1 l).2

theorem join_join (d e : List (Int × ByteArray)) (r : List (Int × ByteArray) × Int) : join d (join e r) = join (d ++ e) r := by
  unfold join
  by_cases h : r.2 = 0
  · simp [h]
  · simp [h]
theorem parse_nil (f : Nat) (last : Int) : parse f last [] = ([], 0) := by
  cases f <;> simp [parse]

/-- On the way: the fields that are done, the last tag, the bytes that are left. -/
def Mid (l0 : List UInt8) (done : List (Int × ByteArray)) (last : Int) (rest : List UInt8) : Prop :=
  done.length * 3 + rest.length ≤ l0.length ∧ ∃ f, rest.length ≤ f ∧ parse l0.length 1 l0 = join done (parse f last rest)

theorem join_nil (r : List (Int × ByteArray) × Int) (h : r.2 ≠ 0 → r.1 = []) : join [] r = r := by
  unfold join
  by_cases h0 : r.2 = 0
  · rw [if_pos h0, List.nil_append, ← h0]
  · rw [if_neg h0, ← h h0]
theorem parse_err_nil : ∀ (f : Nat) (last : Int) (l : List UInt8), (parse f last l).2 ≠ 0 → (parse f last l).1 = []
  | 0, _, _, h => by simp [parse] at h
  | f + 1, last, l, h => by
    unfold parse at h ⊢
    by_cases h1 : l = []
    · simp [h1] at h
    · simp only [if_neg h1] at h ⊢
      by_cases h2 : stepErr last l = 0
      · simp only [if_pos h2] at h ⊢
        unfold join at h ⊢
        by_cases h3 : (parse f (tagOf l) (l.drop (3 + lenOf l))).2 = 0
        · simp [h3] at h
        · simp [h3]
      · simp [h2]
theorem Mid.start (l : List UInt8) : Mid l [] 1 l :=
  ⟨by simp, l.length, Nat.le_refl _, (join_nil _ (parse_err_nil _ _ _)).symm⟩
theorem Mid.finish {l0 : List UInt8} {done : List (Int × ByteArray)} {last : Int} (h : Mid l0 done last []) : unpOut l0 = done ∧ unpErr l0 = 0 := by
  obtain ⟨_, f, _, e⟩ := h
  rw [parse_nil] at e
  unfold unpOut unpErr
  rw [e]
  simp [join]
theorem Mid.fail {l0 : List UInt8} {done : List (Int × ByteArray)} {last : Int} {rest : List UInt8} {e : Int} (h : Mid l0 done last rest) (hr : rest ≠ []) (hs : stepErr last rest = e) (he : e ≠ 0) : unpOut l0 = [] ∧ unpErr l0 = e := by
  obtain ⟨_, f, hf, eq⟩ := h
  match f, hf with
  | 0, hf => exact absurd (List.eq_nil_of_length_eq_zero (by omega)) hr
  | f + 1, _ =>
    have hp : parse (f + 1) last rest = ([], e) := by
      unfold parse
      rw [if_neg hr, hs, if_neg he]
    rw [hp] at eq
    unfold unpOut unpErr
    rw [eq]
    simp [join, he]
theorem Mid.step {l0 : List UInt8} {done : List (Int × ByteArray)} {last : Int} {rest : List UInt8} (h : Mid l0 done last rest) (hr : rest ≠ []) (hs : stepErr last rest = 0) :
    Mid l0 (done ++ [fieldOf rest]) (tagOf rest) (rest.drop (3 + lenOf rest)) := by
  obtain ⟨hl, f, hf, eq⟩ := h
  match f, hf with
  | 0, hf => exact absurd (List.eq_nil_of_length_eq_zero (by omega)) hr
  | f + 1, hf =>
    have h3 : ¬ rest.length < 3 := by
      intro h
      simp [stepErr, h] at hs
    refine ⟨by simp only [List.length_append, List.length_cons, List.length_nil, List.length_drop]; omega, f, by simp only [List.length_drop]; omega, ?_⟩
    rw [eq, ← join_join]
    congr 1
    conv => lhs; unfold parse
    rw [if_neg hr, if_pos hs]

theorem getD_at (s : ByteArray) (i : Nat) (h : i < s.size) : s.data.toList.getD i 0 = s[i] := by
  have h2 : i < s.data.toList.length := by simpa using h
  simp only [List.getD, List.getElem?_eq_getElem h2, Option.getD_some]
  simp
  rfl
theorem getD_drop (l : List UInt8) (a i : Nat) : (l.drop a).getD i 0 = l.getD (a + i) 0 := by
  simp [List.getD]
theorem extract_txt (s : ByteArray) (a b : Nat) : s.extract a b = txt ((s.data.toList.drop a).take (b - a)) := by
  apply ByteArray.ext
  apply Array.ext'
  rw [ByteArray.data_extract]
  simp [txt, List.extract]
end Pl
end Go.Proofs.YtlmoibicepppmaaDoor
