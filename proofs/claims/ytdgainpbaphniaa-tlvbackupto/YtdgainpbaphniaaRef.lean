/-
  The statements' own ref: the fields as the document's fields, by its walk.
-/
import Derived.Test.YtdgainpbaphniaaNum
import Derived.Test.YtdgainpbaphniaaFields
import Derived.Test.YtdgainpbaphniaaAppend
namespace Go.Proofs.Ytdgainpbaphniaa
open Go.ChangeShapes Go.WideShapes Go.ChangeAt Go.RowKit Go.Deep

theorem info55 : (Try.prog.info? 55).map (fun i => (i.zero, i.size, i.bytes)) = some (some (.agg #[.int .i64 0, .string ⟨#[]⟩]), 2, 24) := by kernel_rfl

theorem take_snoc_fields {l : List (Int × ByteArray)} {k : Nat} {x : Int × ByteArray} (hk : k < l.length) (hx : l.getD k (0, .empty) = x) : l.take (k + 1) = l.take k ++ [x] := by
  rw [List.take_succ_eq_append_getElem hk]; simp [List.getD, hk] at hx; rw [hx]

set_option maxHeartbeats 1000000 in
theorem ref_any (v : Value) (l : List (Int × ByteArray)) (w : World) (hv : FieldsAt w.heap.size w v l) (hr : l.length * 24 ≤ 140737488351232) :
    Calls Try.prog 11 #[v] w fun e w' => ∃ r, e = .returned r ∧ w'.ownsRow w.heap.size 55 2 r l.length (cellsOf l) ∧ Below w.heap.size w w' := by
  rcases hv with ⟨ao, cap, rfl, rfl⟩ | ⟨b, off, cap, rfl, hB, hp, hlc, hm, hx⟩
  · go_enter Try.func11, Try.ntmps11
    go_wp2
    refine wp_loop_rounds 1 ?_
    rw [rounds_succ]
    go_wp2
    go_ret
    exact ⟨_, rfl, World.ownsRow_nil _ _ _ _, Below.refl _ _⟩
  · unfold maxLen at hm
    obtain ⟨i0, hi, hz0, hz1, hz2⟩ := info_parts info55
    obtain ⟨n, hn⟩ : ∃ n, l.length = n := ⟨_, rfl⟩
    rw [hn] at hp hlc hx hr ⊢
    have HN : Hid (l.length = n) := hn
    have HX : Hid (∀ i, i < n → w.cell? ⟨b, off + i * 2, none⟩ = some (.int .i64 (l.getD i (0, .empty)).1) ∧ w.cell? ⟨b, off + i * 2 + 1, none⟩ = some (.string (l.getD i (0, .empty)).2)) := hx
    clear hn hx
    go_enter Try.func11, Try.ntmps11
    go_wp2
    go_loopw [3, 8] (fun r i wr => ∃ k : Nat, k ≤ n ∧ i = .int .i64 k ∧ wr.ownsRow w.heap.size 55 2 r k (cellsOf (l.take k)) ∧ Below w.heap.size w wr) (fun _ i _ => n - (intOf i).toNat)
    case atStart => exact ⟨0, Nat.zero_le _, rfl, World.ownsRow_nil _ _ _ _, Below.refl _ _⟩
    case round =>
      obtain ⟨k, hk, rfl, hown, hbl⟩ := hrel
      have hsz := hbl.size
      by_cases hlt : k < n
      · obtain ⟨c0, c1⟩ := HX.out k hlt
        rw [← hbl.cell (p := ⟨b, off + k * 2, none⟩) hB] at c0
        rw [← hbl.cell (p := ⟨b, off + k * 2 + 1, none⟩) hB] at c1
        generalize hf : l.getD k (0, .empty) = f at *
        have HF : Hid (l.getD k (0, .empty) = f) := hf
        clear hf
        obtain ⟨t, s⟩ := f
        have HT : Hid (l.take (k + 1) = l.take k ++ [(t, s)]) := take_snoc_fields (by rw [HN.out]; exact hlt) HF.out
        generalize l.take k = A at *
        go_wp2_with (at_builtin; refine wpList_append_own _ rfl (.tmp 12) (.tmp 18) 28 rfl w.heap.size 55 i0 (.agg #[.int .i64 0, .string ⟨#[]⟩]) 2 24 Try.underlying28 hi hz0 hz1 hz2 rfl (by decide) _ _ _ rfl ((hown.alloc _).alloc _) ⟨wr.heap.size + 1, 0, none⟩ 1 1 [.int .i64 t, .string s] rfl rfl (App.two_new _ _ (by simp) _ _ _) (App.one2 _ _) (by unfold maxLen; omega) (by omega) (by first | omega | (simp; omega)) ?_; intro v1 w1 hown1 hgrow1 _)
        go_roundw
        case rel =>
          refine ⟨k + 1, by omega, by go_num, ?_, ((hbl.alloc hsz _).alloc (by simp; omega) _).grown hgrow1 (by simp; omega) (fun g hg => (hown.lt g hg).1)⟩
          rw [HT.out, cellsOf_append]
          exact hown1
        case measure => simp [intOf]; omega
      · obtain rfl : k = n := by omega
        rw [List.take_of_length_le (by rw [HN.out]; exact Nat.le_refl _)] at hown
        go_wp2
        go_ret
        exact ⟨_, rfl, hown, hbl⟩
end Go.Proofs.Ytdgainpbaphniaa
