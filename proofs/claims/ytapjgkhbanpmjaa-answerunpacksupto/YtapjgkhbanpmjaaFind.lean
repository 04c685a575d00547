/-
  What tlv.First, tlv.All and the statements' own Texts answer: each by its walk.
-/
import Derived.Test.YtapjgkhbanpmjaaNum
import Derived.Test.YtapjgkhbanpmjaaFields
import Derived.BigQuiet
import Derived.Deep.QuietTactic
namespace Go.Proofs.Ytapjgkhbanpmjaa
open Go.ChangeShapes Go.WideShapes Go.ChangeAt Go.RowKit Go.Deep

namespace Pl
def firstOf (l : List (Int × ByteArray)) (tag : Int) : ByteArray := ((l.find? fun x => x.1 == tag).map (·.2)).getD ⟨#[]⟩
def hasTag (l : List (Int × ByteArray)) (tag : Int) : Bool := (l.find? fun x => x.1 == tag).isSome
def allOf (l : List (Int × ByteArray)) (tag : Int) : List ByteArray := (l.filter fun x => x.1 == tag).map (·.2)
/-- no field ahead of k has the tag -/
def noneTo (l : List (Int × ByteArray)) (tag : Int) (k : Nat) : Prop := ∀ i, i < k → i < l.length → ((l.getD i (0, .empty)).1 == tag) = false
theorem find_at (tag : Int) (x : Int × ByteArray) (hx : (x.1 == tag) = true) : ∀ (l : List (Int × ByteArray)) (k : Nat), k < l.length → l.getD k (0, .empty) = x → noneTo l tag k → l.find? (fun x => x.1 == tag) = some x
  | [], k, hk, _, _ => by simp at hk
  | y :: l, 0, _, h, _ => by
    simp at h
    subst h
    simp only [List.find?_cons, hx]
  | y :: l, k + 1, hk, h, hn => by
    have h0 := hn 0 (by omega) (by simp)
    simp only [List.getD_cons_zero] at h0
    simp only [List.find?_cons, h0]
    exact find_at tag x hx l k (by simpa using hk) (by simpa using h) (fun i hi hl => by simpa using hn (i + 1) (by omega) (by simpa using hl))
theorem find_none (tag : Int) (l : List (Int × ByteArray)) (hn : noneTo l tag l.length) : l.find? (fun x => x.1 == tag) = none := by
  rw [List.find?_eq_none]
  intro x hx
  obtain ⟨i, hi, rfl⟩ := List.getElem_of_mem hx
  have := hn i hi hi
  simp [List.getD, hi] at this
  simp [this]
theorem noneTo_succ {l : List (Int × ByteArray)} {tag : Int} {k : Nat} {x : Int × ByteArray} (hn : noneTo l tag k) (h : l.getD k (0, .empty) = x) (hx : (x.1 == tag) = false) : noneTo l tag (k + 1) := by
  intro i hi hl
  by_cases e : i = k
  · subst e; rw [h]; exact hx
  · exact hn i (by omega) hl
end Pl

namespace Pl
theorem take_getD {l : List (Int × ByteArray)} {k : Nat} (hk : k < l.length) : l.take (k + 1) = l.take k ++ [l.getD k (0, .empty)] := by
  rw [List.take_succ_eq_append_getElem hk]; simp [List.getD, hk]
theorem allOf_hit {l : List (Int × ByteArray)} {tag : Int} {k : Nat} {x : Int × ByteArray} (hk : k < l.length) (h : l.getD k (0, .empty) = x) (hx : (x.1 == tag) = true) : allOf (l.take (k + 1)) tag = allOf (l.take k) tag ++ [x.2] := by
  rw [take_getD hk, h]; simp [allOf, hx]
theorem allOf_miss {l : List (Int × ByteArray)} {tag : Int} {k : Nat} {x : Int × ByteArray} (hk : k < l.length) (h : l.getD k (0, .empty) = x) (hx : (x.1 == tag) = false) : allOf (l.take (k + 1)) tag = allOf (l.take k) tag := by
  rw [take_getD hk, h]; simp [allOf, hx]
theorem allOf_le (l : List (Int × ByteArray)) (tag : Int) (k : Nat) : (allOf (l.take k) tag).length ≤ k := by
  simp only [allOf, List.length_map]
  exact Nat.le_trans (List.length_filter_le _ _) (List.length_take_le _ _)
end Pl
theorem info9 : (Try.prog.info? 9).map (fun i => (i.zero, i.size, i.bytes)) = some (some (.string ⟨#[]⟩), 1, 16) := by kernel_rfl

set_option maxRecDepth 100000 in
set_option maxHeartbeats 1000000 in
theorem all_any (v : Value) (l : List (Int × ByteArray)) (tag : Int) (w : World) (hv : FieldsAt w.heap.size w v l) (hr : l.length * 24 ≤ 140737488351232) :
    Calls Try.prog 60 #[v, .int .i64 tag] w fun e w' => ∃ r, e = .returned r ∧ w'.ownsRow w.heap.size 9 1 r (Pl.allOf l tag).length ((Pl.allOf l tag).map Value.string) ∧ Below w.heap.size w w' := by
  rcases hv with ⟨ao, cap, rfl, rfl⟩ | ⟨b, off, cap, rfl, hB, hp, hlc, hm, hx⟩
  · go_enter Try.func60, Try.ntmps60
    go_wp2
    refine wp_loop_rounds 1 ?_
    rw [rounds_succ]
    go_wp2
    go_ret
    exact ⟨_, rfl, World.ownsRow_nil _ _ _ _, Below.refl _ _⟩
  · unfold maxLen at hm
    obtain ⟨i0, hi, hz0, hz1, hz2⟩ := info_parts info9
    obtain ⟨n, hn⟩ : ∃ n, l.length = n := ⟨_, rfl⟩
    rw [hn] at hp hlc hx hr ⊢
    have HN : Hid (l.length = n) := hn
    have HX : Hid (∀ i, i < n → w.cell? ⟨b, off + i * 2, none⟩ = some (.int .i64 (l.getD i (0, .empty)).1) ∧ w.cell? ⟨b, off + i * 2 + 1, none⟩ = some (.string (l.getD i (0, .empty)).2)) := hx
    clear hn hx
    go_enter Try.func60, Try.ntmps60
    go_wp2
    go_loopw [5, 10] (fun r i wr => ∃ k : Nat, k ≤ n ∧ i = .int .i64 k ∧ wr.ownsRow w.heap.size 9 1 r (Pl.allOf (l.take k) tag).length ((Pl.allOf (l.take k) tag).map Value.string) ∧ Below w.heap.size w wr) (fun _ i _ => n - (intOf i).toNat)
    case atStart => exact ⟨0, Nat.zero_le _, rfl, World.ownsRow_nil _ _ _ _, Below.refl _ _⟩
    case round =>
      obtain ⟨k, hk, rfl, hown, hbl⟩ := hrel
      by_cases hlt : k < n
      · obtain ⟨c0, c1⟩ := HX.out k hlt
        rw [← hbl.cell (p := ⟨b, off + k * 2, none⟩) hB] at c0
        rw [← hbl.cell (p := ⟨b, off + k * 2 + 1, none⟩) hB] at c1
        generalize hf : l.getD k (0, .empty) = f at *
        have HF : Hid (l.getD k (0, .empty) = f) := hf
        clear hf
        obtain ⟨t, s⟩ := f
        by_cases ht : t = tag
        · subst ht
          have hle := Pl.allOf_le l t k
          have HA : Hid (Pl.allOf (l.take (k + 1)) t = Pl.allOf (l.take k) t ++ [s]) := Pl.allOf_hit (by rw [HN.out]; exact hlt) HF.out (by simp)
          generalize Pl.allOf (l.take k) t = A at *
          have hsz := hbl.size
          go_wp2_with (at_builtin; refine wpList_append_own _ rfl _ _ 90 rfl w.heap.size 9 i0 (.string ⟨#[]⟩) 1 16 Try.underlying90 hi hz0 hz1 hz2 rfl (by decide) _ _ _ rfl ((hown.alloc _).alloc _) ⟨wr.heap.size + 1, 0, none⟩ 1 1 [.string s] rfl rfl ?c1 ?c2 ?c3 ?c4 ?c5 ?_)
          case c2 => rfl
          case c3 => unfold maxLen; omega
          case c4 => omega
          case c5 => omega
          intro v' w1 hown' hgrow _
          have hb' : Below w.heap.size w w1 := ((hbl.alloc hsz _).alloc (by simp; omega) _).grown hgrow (by simp; omega) (fun g hg => (hown.lt g hg).1)
          have R0 : w1.ownsRow w.heap.size 9 1 v' (Pl.allOf (l.take (k + 1)) t).length ((Pl.allOf (l.take (k + 1)) t).map Value.string) := by
            rw [HA.out]
            simpa using hown'
          have R : Hid (w1.ownsRow w.heap.size 9 1 v' (Pl.allOf (l.take (k + 1)) t).length ((Pl.allOf (l.take (k + 1)) t).map Value.string)) := R0
          clear hown' hgrow hown R0
          go_wp2
          go_roundw
          case rel => exact ⟨k + 1, by omega, by go_num, R.out, hb'⟩
          case measure => simp [intOf]; omega
        · have ht' : (t == tag) = false := by simp [ht]
          have HA : Hid (Pl.allOf (l.take (k + 1)) tag = Pl.allOf (l.take k) tag) := Pl.allOf_miss (by rw [HN.out]; exact hlt) HF.out ht'
          go_wp2
          go_roundw
          case rel => exact ⟨k + 1, by omega, by go_num, by rw [HA.out]; exact hown.alloc _, hbl.alloc hbl.size _⟩
          case measure => simp [intOf]; omega
      · obtain rfl : k = n := by omega
        rw [List.take_of_length_le (by rw [HN.out]; exact Nat.le_refl _)] at hown
        go_wp2
        go_ret
        exact ⟨_, rfl, hown, hbl⟩
end Go.Proofs.Ytapjgkhbanpmjaa
