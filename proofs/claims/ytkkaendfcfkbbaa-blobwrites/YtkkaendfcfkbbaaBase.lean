/-
  blob's end, Check and within, the statements' heavy and Runs: what they answer at any runs.
-/
import Derived.Test.YtkkaendfcfkbbaaRows
import Derived.Test.YtkkaendfcfkbbaaPlain
import Derived.Test.YtkkaendfcfkbbaaFields
import Derived.WalkKit
import Derived.WalkSpells
import Derived.WalkLawsBesides
import Derived.ProofKit
import Derived.BigQuiet
import Derived.Deep.QuietTactic
namespace Go.Proofs.Ytkkaendfcfkbbaa
open Go.ChangeShapes Go.WideShapes Go.ChangeAt Go.RowKit Go.Deep

theorem laidOut : laidOutB Try.prog = true := by kernel_rfl
theorem own : ownKnob Try.prog.godebug = none := by kernel_rfl
theorem infoRun : (Try.prog.info? 24).map (fun i => (i.zero, i.size, i.bytes)) = some (some (.agg #[.int .i64 0, .string ⟨#[]⟩]), 2, 24) := by kernel_rfl

theorem wrap_small (n : Nat) (h : n < 9223372036854775808) : IntKind.i64.wrap (n : Int) = (n : Int) := by
  have e : (n : Int) % 2 ^ 64 = n := Int.emod_eq_of_lt (by omega) (by omega)
  simp only [IntKind.wrap, IntKind.bits, IntKind.signed, e]
  rw [if_neg]
  simp
  omega
theorem wrap_int (x : Int) (h0 : 0 ≤ x) (h : x < 9223372036854775808) : IntKind.i64.wrap x = x := by
  obtain ⟨n, rfl⟩ := Int.eq_ofNat_of_zero_le h0
  exact wrap_small n (by omega)
abbrev BR (a : Int) (s : ByteArray) : Obj := .cells #[.int .i64 a, .string s] 24
theorem end_any (a : Int) (s : ByteArray) (w : World) (h0 : -9223372036854775808 ≤ a) (h1 : a + s.size ≤ 9223372036854775807) :
    Calls Try.prog 22 #[.agg #[.int .i64 a, .string s]] w fun e w' => e = .returned (.int .i64 (a + s.size)) ∧ w' = w.alloc (BR a s) := by
  go_enter Try.func22, Try.ntmps22
  go_wp2
  go_ret
  exact ⟨rfl, rfl⟩

theorem end_grow (a : Int) (s : ByteArray) (w : World) (h0 : -9223372036854775808 ≤ a) (h1 : a + s.size ≤ 9223372036854775807) :
    Calls Try.prog 22 #[.agg #[.int .i64 a, .string s]] w fun e w' => e = .returned (.int .i64 (a + s.size)) ∧ w.grownBy w' none :=
  (end_any a s w h0 h1).mono fun _ _ ⟨he, hw⟩ => ⟨he, by rw [hw]; exact World.grownBy_alloc _ _ _⟩
def Bl.err (l : List Bl.R) : Int := if Bl.right (-1) l then 0 else 80
theorem Bl.take_succ (l : List Bl.R) {k : Nat} (hk : k < l.length) {x : Bl.R} (hx : l.getD k (0, .empty) = x) : l.take (k + 1) = l.take k ++ [x] := by
  rw [List.take_succ_eq_append_getElem hk, ← hx]
  simp [List.getD, hk]
theorem Bl.right_take_succ {l : List Bl.R} {k : Nat} (hk : k < l.length) {x : Bl.R} (hx : l.getD k (0, .empty) = x) : Bl.right (-1) (l.take (k + 1)) ↔ Bl.right (-1) (l.take k) ∧ (x.2.size ≠ 0 ∧ Bl.lastEnd (-1) (l.take k) < x.1 ∧ x.1 + x.2.size ≤ 1048576) := by
  rw [Bl.take_succ l hk hx, Bl.right_append]
  exact ⟨fun ⟨a, b, _⟩ => ⟨a, b⟩, fun ⟨a, b⟩ => ⟨a, b, trivial⟩⟩
theorem Bl.right_take {l : List Bl.R} {a : Int} (h : Bl.right a l) (k : Nat) : Bl.right a (l.take k) := by
  rw [← List.take_append_drop k l, Bl.right_append] at h
  exact h.1
theorem Bl.err_bad {l : List Bl.R} {k : Nat} (hk : k < l.length) {x : Bl.R} (hx : l.getD k (0, .empty) = x) (h : ¬ (x.2.size ≠ 0 ∧ Bl.lastEnd (-1) (l.take k) < x.1 ∧ x.1 + x.2.size ≤ 1048576)) : Bl.err l = 80 := by
  unfold Bl.err
  rw [if_neg]
  intro hr
  exact h ((Bl.right_take_succ hk hx).1 (Bl.right_take hr (k + 1))).2
theorem Bl.lastEnd_succ {l : List Bl.R} {k : Nat} (hk : k < l.length) {x : Bl.R} (hx : l.getD k (0, .empty) = x) : Bl.lastEnd (-1) (l.take (k + 1)) = x.1 + x.2.size := by
  rw [Bl.take_succ l hk hx, Bl.lastEnd_append]
  rfl
theorem Bl.lastEnd_bd {l : List Bl.R} (h : Bl.right (-1) l) : -1 ≤ Bl.lastEnd (-1) l ∧ Bl.lastEnd (-1) l ≤ 1048576 := by
  refine ⟨Bl.right_lastEnd h, ?_⟩
  rcases Bl.snoc_cases l with rfl | ⟨m, s, rfl⟩
  · decide
  · rw [Bl.lastEnd_append]
    exact (Bl.right_mem h s (by simp)).2.2

set_option maxHeartbeats 1000000 in
theorem check_any (v : Value) (l : List Bl.R) (w : World) (hv : FieldsAt w.heap.size w v l) (hok : okFields l) :
    Calls Try.prog 10 #[v] w fun e w' => e = .returned (.int .i64 (Bl.err l)) ∧ Below w.heap.size w w' := by
  obtain ⟨ao, cap, rfl, hm, hx⟩ := hv.open
  clear hv
  unfold maxLen at hm
  obtain ⟨n, hn⟩ : ∃ n, l.length = n := ⟨_, rfl⟩
  rw [hn] at hm hx ⊢
  have HN : Hid (l.length = n) := hn
  have HX : Hid (∀ j, j < n → ∃ b off, ao = some ⟨b, off, none⟩ ∧ b < w.heap.size ∧ w.cell? ⟨b, off + j * 2, none⟩ = some (.int .i64 (l.getD j (0, .empty)).1) ∧ w.cell? ⟨b, off + j * 2 + 1, none⟩ = some (.string (l.getD j (0, .empty)).2)) := hx
  have HO : Hid (okFields l) := hok
  clear hn hx hok
  go_enter Try.func10, Try.ntmps10
  go_wp2
  go_loopw [3, 8] (fun t i wr => ∃ k : Nat, k ≤ n ∧ i = .int .i64 k ∧ t = .int .i64 (Bl.lastEnd (-1) (l.take k)) ∧ Bl.right (-1) (l.take k) ∧ Below w.heap.size w wr) (fun _ i _ => n - (intOf i).toNat)
  case atStart => exact ⟨0, Nat.zero_le _, rfl, rfl, trivial, Below.refl _ _⟩
  case round =>
    obtain ⟨k, hk, rfl, rfl, hr, hbl⟩ := hrel
    have hsz := hbl.size
    obtain ⟨hb0, hb1⟩ := Bl.lastEnd_bd hr
    obtain ⟨la, hla⟩ : ∃ la, Bl.lastEnd (-1) (l.take k) = la := ⟨_, rfl⟩
    rw [hla] at hb0 hb1 ⊢
    have HLA : Hid (Bl.lastEnd (-1) (l.take k) = la) := hla
    have HR : Hid (Bl.right (-1) (l.take k)) := hr
    clear hla hr
    by_cases hlt : k < n
    · obtain ⟨b, off, rfl, hB, c0, c1⟩ := HX.out k hlt
      have hk' : k < l.length := by rw [HN.out]; exact hlt
      have hof := HO.out.at hk'
      rw [← hbl.cell (p := ⟨b, off + k * 2, none⟩) hB] at c0
      rw [← hbl.cell (p := ⟨b, off + k * 2 + 1, none⟩) hB] at c1
      obtain ⟨x, hxk⟩ : ∃ x, l.getD k (0, .empty) = x := ⟨_, rfl⟩
      rw [hxk] at c0 c1 hof
      have HXK : Hid (l.getD k (0, .empty) = x) := hxk
      clear hxk
      obtain ⟨xa, xs⟩ := x
      simp only at c0 c1 hof
      obtain ⟨⟨ha0, ha1⟩, hs1⟩ := hof
      unfold maxLen at hs1
      have hlt' : (k : Int) < (n : Int) := by omega
      by_cases h1 : xs.size = 0
      · have H : Hid (Bl.err l = 80) := Bl.err_bad hk' HXK.out (fun h => h.1 h1)
        have h1' : ((xs.size : Int) == 0) = true := by simp [h1]
        clear h1
        go_wp2
        go_ret
        rw [H.out]
        exact ⟨rfl, hbl.alloc hsz _⟩
      · have h1' : ((xs.size : Int) == 0) = false := beq_eq_false_iff_ne.2 (by omega)
        by_cases h2 : xa ≤ la
        · have H : Hid (Bl.err l = 80) := Bl.err_bad hk' HXK.out (fun h => by have := h.2.1; rw [HLA.out] at this; simp only at this; omega)
          clear h1
          go_wp2
          go_ret
          rw [H.out]
          exact ⟨rfl, hbl.alloc hsz _⟩
        · by_cases h3 : (1048576 : Int) - xs.size < xa
          · have H : Hid (Bl.err l = 80) := Bl.err_bad hk' HXK.out (fun h => by have := h.2.2; simp only at this; omega)
            clear h1
            go_wp2
            go_ret
            rw [H.out]
            exact ⟨rfl, hbl.alloc hsz _⟩
          · have H1 : Hid (¬ xs.size = 0) := h1
            clear h1
            go_wp2_with fail
            refine (end_any xa xs _ (by omega) (by omega)).mono ?_
            rintro e w1 ⟨rfl, rfl⟩
            go_wp2
            go_roundw
            case rel => exact ⟨k + 1, by omega, by go_num, by rw [Bl.lastEnd_succ hk' HXK.out], (Bl.right_take_succ hk' HXK.out).2 ⟨HR.out, H1.out, by rw [HLA.out]; simp only; omega, by simp only; omega⟩, (hbl.alloc hsz _).alloc (by simp; omega) _⟩
            case measure => simp [intOf]; omega
    · obtain rfl : k = n := by omega
      have H : Hid (Bl.err l = 0) := by
        have := HR.out
        rw [← HN.out, List.take_length] at this
        show Bl.err l = 0
        unfold Bl.err
        rw [if_pos this]
      go_wp2
      go_ret
      rw [H.out]
      exact ⟨rfl, hbl⟩
end Go.Proofs.Ytkkaendfcfkbbaa
