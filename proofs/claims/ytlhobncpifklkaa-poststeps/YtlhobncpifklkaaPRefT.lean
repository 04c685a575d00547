/-
  The reference's post: Take, at any one that stands for a list of letters.
-/
import Derived.Test.YtlhobncpifklkaaPRefS
import Derived.Test.YtlhobncpifklkaaPTake
namespace Go.Proofs.Ytlhobncpifklkaa
theorem owns_base {w : World} {base base' : Nat} {e : TypeId} {size : Nat} {v : Value} {n : Nat} {xs : List Value} (h : w.ownsRow base e size v n xs) (hb : base' ≤ base) : w.ownsRow base' e size v n xs := by
  refine ⟨h.1, ?_⟩
  rcases h.2 with h2 | ⟨g, cap, cur, e1, h3, h4⟩
  · exact .inl h2
  · exact .inr ⟨g, cap, cur, e1, Nat.le_trans hb h3, h4⟩
namespace Rf
open Go.RowKit

theorem post_set {W : World} {s : Nat} {nodes last : Int} {v : Value} {ls : List Po.Lt} (h : PostAt W s nodes last v ls) {a : Addr} (h1 : a.block ≠ s) (h2 : some a.block ≠ v.ownBlock) (u : Value) : PostAt (W.setCell a u) s nodes last v ls := by
  have hg : W.grownBy (W.setCell a u) (some a.block) := ⟨rfl, rfl, rfl, by simp [World.setCell], fun k _ hne => Below.heap_setCell _ _ _ _ (fun e => hne (by rw [e]))⟩
  exact h.kept hg (by simpa using h1.symm) (.inr h2.symm)

set_option maxHeartbeats 1000000 in
set_option maxRecDepth 100000 in
theorem take_none {s : Nat} {nodes last : Int} {v : Value} {ls : List Po.Lt} (n : Int) (w : World) (h : PostAt w s nodes last v ls) (hg : Po.get ls n = none) : Calls Try.prog 36 #[.pointer (some ⟨s, 0, none⟩), .int .i64 n] w fun e w' => e = .returned (.tuple #[letter Po.d0, .int .i64 6]) ∧ w.grownBy w' none := by
  have HP : Hid (PostAt w s nodes last v ls) := h
  have HN : Hid (Po.get ls n = none) := hg
  clear h hg
  go_enter Try.func36, Try.ntmps36
  go_wp2_with fail
  refine (see_none n _ (HP.out.still (World.grownBy_alloc _ _ _)) HN.out).mono ?_
  rintro e w2 ⟨rfl, hg⟩
  have hA : w2.heap[w.heap.size]? = some Z4 := (hg.block w.heap.size (by simp) (by simp)).trans (heap_alloc_new _ _)
  have HG : Hid (w.grownBy w2 none) := grown_trans (World.grownBy_alloc _ _ _) hg
  have el : letter Po.d0 = .agg #[.int .i64 0, .int .i64 0, .int .i64 0, .string ⟨#[]⟩] := rfl
  rw [el]
  clear hg el
  go_upto_region 3 with fail
  have HG2 : Hid (w.grownBy (w2.alloc (.cells #[.int .i64 0, .int .i64 0, .int .i64 0, .string ⟨#[]⟩] 72)) none) := grown_trans HG.out (World.grownBy_alloc _ _ _)
  have hA2 : (w2.alloc (.cells #[.int .i64 0, .int .i64 0, .int .i64 0, .string ⟨#[]⟩] 72)).heap[w.heap.size]? = some Z4 := (Below.heap_alloc _ _ _ (Array.getElem?_eq_some_iff.1 hA).1).trans hA
  have hB2 : (w2.alloc (.cells #[.int .i64 0, .int .i64 0, .int .i64 0, .string ⟨#[]⟩] 72)).heap[w2.heap.size]? = some (.cells #[.int .i64 0, .int .i64 0, .int .i64 0, .string ⟨#[]⟩] 72 (0, 0)) := heap_alloc_new _ _
  clear hA
  generalize w2.alloc (.cells #[.int .i64 0, .int .i64 0, .int .i64 0, .string ⟨#[]⟩] 72) = W at HG2 hA2 hB2 ⊢
  obtain ⟨⟨a0, a1, a2, a3⟩, af⟩ := four_of hA2
  obtain ⟨⟨b0, b1, b2, b3⟩, bf⟩ := four_of hB2
  clear hA2 hB2
  go_wp2
  (try simp only [Exit.inBlock, Exit.then])
  refine bodyPost_ret (v := .tuple #[letter Po.d0, .int .i64 6]) ?_ rfl ⟨rfl, ?_⟩
  · rw [results_cell_tmp rfl]
    unfold letter
    go_simp
  · exact grown_set (grown_set (grown_set (grown_set HG2.out (Nat.le_refl _) _) (Nat.le_refl _) _) (Nat.le_refl _) _) (Nat.le_refl _) _

set_option maxHeartbeats 2000000 in
set_option maxRecDepth 100000 in
theorem take_some {s : Nat} {nodes last : Int} {v : Value} {ls : List Po.Lt} {x : Po.Lt} (n : Int) (w : World) (h : PostAt w s nodes last v ls) (hg : Po.get ls n = some x) :
    Calls Try.prog 36 #[.pointer (some ⟨s, 0, none⟩), .int .i64 n] w fun e w' => ∃ v', e = .returned (.tuple #[letter x, .int .i64 0]) ∧ PostAt w' s nodes last v' (Po.drop ls n) ∧ Turns w w' s v ∧ Moves w v v' := by
  obtain ⟨i0, hi, hz0, hz1, hz2⟩ := info_parts info72
  have HP : Hid (PostAt w s nodes last v ls) := h
  have HN : Hid (Po.get ls n = some x) := hg
  have hsw := h.lt
  obtain ⟨x0, x1, x2, x3⟩ := x
  clear h hg
  go_enter Try.func36, Try.ntmps36
  go_wp2_with fail
  refine (see_some n _ (HP.out.still (World.grownBy_alloc _ _ _)) HN.out).mono ?_
  rintro e w2 ⟨rfl, hg⟩
  have hA : w2.heap[w.heap.size]? = some Z4 := (hg.block w.heap.size (by simp) (by simp)).trans (heap_alloc_new _ _)
  have HG : Hid (w.grownBy w2 none) := grown_trans (World.grownBy_alloc _ _ _) hg
  have hAlt := (Array.getElem?_eq_some_iff.1 hA).1
  unfold letter
  simp only
  clear hg
  go_upto_region 5 with fail
  have HG3 : Hid (w.grownBy (w2.alloc (.cells #[.int .i64 x0, .int .i64 x1, .int .i64 x2, .string x3] 72)) none) := grown_trans HG.out (World.grownBy_alloc _ _ _)
  have HA3 : Hid ((w2.alloc (.cells #[.int .i64 x0, .int .i64 x1, .int .i64 x2, .string x3] 72)).heap[w.heap.size]? = some Z4) := (Below.heap_alloc _ _ _ hAlt).trans hA
  have HB3 : Hid ((w2.alloc (.cells #[.int .i64 x0, .int .i64 x1, .int .i64 x2, .string x3] 72)).heap[w2.heap.size]? = some (.cells #[.int .i64 x0, .int .i64 x1, .int .i64 x2, .string x3] 72 (0, 0))) := heap_alloc_new _ _
  clear hA
  generalize w2.alloc (.cells #[.int .i64 x0, .int .i64 x1, .int .i64 x2, .string x3] 72) = w3 at HG3 HA3 HB3 ⊢
  generalize w2.heap.size = X at HB3 hAlt ⊢
  obtain ⟨ao, cp, rfl⟩ := row_slice HP.out.row
  have HP3 : Hid (PostAt w3 s nodes last (.slice ao ls.length cp) ls) := HP.out.still HG3.out
  obtain ⟨_, _, c2⟩ := HP3.out.cells
  obtain ⟨m, hm⟩ : ∃ m, ls.length = m := ⟨_, rfl⟩
  have HM : Hid (ls.length = m) := hm
  have hl : m ≤ 2048 := by rw [← hm]; exact HP.out.good.len
  have hX3 : X < w3.heap.size := (Array.getElem?_eq_some_iff.1 HB3.out).1
  rw [hm] at c2
  clear hm
  go_wp2
  go_loopw [8, 26] (fun u8 i wr => ∃ j : Nat, j ≤ m ∧ i = .int .i64 j ∧ wr.ownsRow w3.heap.size 72 4 u8 (Po.drop (ls.take j) n).length (Po.cells (Po.drop (ls.take j) n)) ∧ Hid (Below w3.heap.size w3 wr))
    (fun _ i _ => m - (intOf i).toNat)
  case atStart => exact ⟨0, Nat.zero_le _, rfl, World.ownsRow_nil _ _ _ _, Below.refl _ _⟩
  case round =>
    obtain ⟨j, hjm, rfl, hr4, HB⟩ := hrel
    by_cases hjl : j < m
    · have hjs : j < ls.length := by have := HM.out; omega
      rcases HP3.out.row.2 with ⟨e, h0⟩ | ⟨g, cp', cur, e, hbg, _⟩
      · have := HM.out
        omega
      injection e with e1 e2 e3
      subst e1 e3
      obtain ⟨q0, q1, q2, q3⟩ := row_at HP3.out.row hjs
      have k0 := (grown_of_below HB.out none).cell q0 (by simp)
      have k1 := (grown_of_below HB.out none).cell q1 (by simp)
      have k2 := (grown_of_below HB.out none).cell q2 (by simp)
      have k3 := (grown_of_below HB.out none).cell q3 (by simp)
      have HD : Hid _ := Po.drop_more hjs n
      have hlen : (Po.drop (ls.take j) n).length ≤ 2048 := by
        have h1 : (Po.drop (ls.take j) n).length ≤ (ls.take j).length := List.length_filter_le _ _
        have h2 := List.length_take_le j ls
        omega
      generalize ls.getD j Po.d0 = p at k0 k1 k2 k3 HD
      generalize Po.drop (ls.take j) n = O at hr4 HD hlen
      obtain ⟨p0, p1, p2, p3⟩ := p
      simp only at k0 k1 k2 k3 HD
      clear q0 q1 q2 q3 hbg
      by_cases he : p0 = n
      · have HD2 : Hid (Po.drop (ls.take (j + 1)) n = O) := HD.out.trans (if_pos he)
        clear HD
        go_wp2
        go_roundw
        case rel => exact ⟨j + 1, by omega, by go_num, by rw [HD2.out]; exact hr4.alloc _, HB.out.alloc HB.out.size _⟩
        case measure => simp [intOf]; omega
      · have HD2 : Hid (Po.drop (ls.take (j + 1)) n = O ++ [(p0, p1, p2, p3)]) := HD.out.trans (if_neg he)
        clear HD
        go_wp2_with (at_builtin; refine wpList_append_own _ rfl _ _ 68 rfl w3.heap.size 72 i0 (.agg #[.int .i64 0, .int .i64 0, .int .i64 0, .string ⟨#[]⟩]) 4 40 Try.underlying68 hi hz0 hz1 hz2 rfl (by decide) _ _ _ rfl ((hr4.alloc _).alloc _) ⟨wr.heap.size + 1, 0, none⟩ 1 1 [.int .i64 p0, .int .i64 p1, .int .i64 p2, .string p3] rfl rfl ?c1 ?c2 ?c3 ?c4 ?c5 ?_)
        case c2 => exact ⟨rfl, rfl, rfl, rfl⟩
        case c3 => unfold maxLen; omega
        case c4 => omega
        case c5 => have := HB.out.size; simp; omega
        intro v7 w7 hown7 hg7 _
        have gA := World.grownBy_alloc wr (.cells #[.int .i64 p0, .int .i64 p1, .int .i64 p2, .string p3] 72) none
        have gB := World.grownBy_alloc (wr.alloc (.cells #[.int .i64 p0, .int .i64 p1, .int .i64 p2, .string p3] 72)) (.cells #[.int .i64 p0, .int .i64 p1, .int .i64 p2, .string p3] 72) none
        have HB7 : Hid (Below w3.heap.size w3 w7) := (HB.out.trans (below_none (grown_trans gA gB) HB.out.size)).grown hg7 (by have := HB.out.size; simp; omega) (fun j hj => (hr4.lt j hj).1)
        have HR7 : Hid (w7.ownsRow w3.heap.size 72 4 v7 (O ++ [(p0, p1, p2, p3)]).length (Po.cells (O ++ [(p0, p1, p2, p3)]))) := by
          have : w7.ownsRow w3.heap.size 72 4 v7 (O ++ [(p0, p1, p2, p3)]).length (Po.cells (O ++ [(p0, p1, p2, p3)])) := by rw [Po.cells_append, Po.cells_one]; simpa using hown7
          exact this
        clear hown7 hg7 gA gB hr4
        go_wp2
        go_roundw
        case rel => exact ⟨j + 1, by omega, by go_num, by rw [HD2.out]; exact HR7.out, HB7⟩
        case measure => simp [intOf]; omega
    · obtain rfl : j = m := by omega
      rw [show ls.take j = ls by rw [← HM.out, List.take_length]] at hr4
      have hgr := grown_of_below HB.out none
      have hbS := (hgr.block s HP3.out.lt (by simp)).trans HP3.out.block
      have hbA := (hgr.block w.heap.size (by omega) (by simp)).trans HA3.out
      have hbX := (hgr.block X hX3 (by simp)).trans HB3.out
      have HRO : Hid (∀ k, u8.ownBlock = some k → w3.heap.size ≤ k) := fun k hk => (hr4.lt k hk).1
      have cs2 : wr.cell? ⟨s, 2, none⟩ = some (.slice ao ls.length cp) := by simp [World.cell?, hbS]
      have fs2 : wr.frozen? ⟨s, 2, none⟩ = false := by simp [World.frozen?, hbS]
      obtain ⟨⟨a0, a1, a2, a3⟩, af⟩ := four_of hbA
      obtain ⟨⟨b0, b1, b2, b3⟩, bf⟩ := four_of hbX
      have HE : Hid (PostAt (wr.setCell ⟨s, 2, none⟩ u8) s nodes last u8 (Po.drop ls n) ∧ Turns w (wr.setCell ⟨s, 2, none⟩ u8) s (.slice ao ls.length cp)) := by
        refine ⟨⟨?_, ?_, HP.out.good.drop n⟩, turns_set ?_ (.inr rfl) _⟩
        · simp [World.setCell, Array.getElem?_modify, hbS]
        · exact owns_set (owns_base hr4 (by omega)) 2 _ rfl
        · exact .of_grown (grown_trans HG3.out hgr)
      have hnA : ¬ (w.heap.size = s) := by omega
      have hnX : ¬ (X = s) := by omega
      obtain ⟨ao8, cp8, rfl⟩ := row_slice hr4
      clear hr4 hgr hbS hbA hbX bf c2
      go_wp2
      (try simp only [Exit.inBlock, Exit.then])
      refine bodyPost_ret (v := .tuple #[letter (x0, x1, x2, x3), .int .i64 0]) ?_ rfl ⟨.slice ao8 (Po.drop ls n).length cp8, rfl, ?_, ?_, .inr fun k hk => ?_⟩
      · rw [results_cell_tmp rfl]
        unfold letter
        go_simp
      · have p1 : w.heap.size ≠ s := hnA
        have p2 : some w.heap.size ≠ (Value.slice ao8 (Po.drop ls n).length cp8).ownBlock := fun e => by have := HRO.out _ e.symm; omega
        exact post_set (post_set (post_set (post_set HE.out.1 p1 p2 _) p1 p2 _) p1 p2 _) p1 p2 _
      · have p1 : w.heap.size ≤ w.heap.size := Nat.le_refl _
        exact turns_set (turns_set (turns_set (turns_set HE.out.2 (.inl p1) _) (.inl p1) _) (.inl p1) _) (.inl p1) _
      · have := HRO.out k hk
        omega

/-- Take, at any one. -/
theorem take_any {s : Nat} {nodes last : Int} {v : Value} {ls : List Po.Lt} (n : Int) (w : World) (h : PostAt w s nodes last v ls) :
    Calls Try.prog 36 #[.pointer (some ⟨s, 0, none⟩), .int .i64 n] w fun e w' => ∃ v', e = .returned (.tuple #[letter ((Po.get ls n).getD Po.d0), .int .i64 (seeErr (Po.get ls n))]) ∧ PostAt w' s nodes last v' (Po.drop ls n) ∧ Turns w w' s v ∧ Moves w v v' := by
  cases hg : Po.get ls n with
  | none =>
    rw [Po.drop_none hg]
    exact (take_none n w h hg).mono fun _ _ ⟨he, hw⟩ => ⟨v, he, h.still hw, .of_grown hw, .refl _ _⟩
  | some x => exact take_some n w h hg
end Rf
end Go.Proofs.Ytlhobncpifklkaa
