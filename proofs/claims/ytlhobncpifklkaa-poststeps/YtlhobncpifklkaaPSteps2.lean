/-
  For any number of nodes and any slice of steps sextonlaw04.PostSteps returns true, whatever the memory: step by step the post answers as the reference. No condition.
-/
import Derived.Test.YtlhobncpifklkaaPDoes
import Derived.Test.YtlhobncpifklkaaPLaw
namespace Go.Proofs.Ytlhobncpifklkaa
open Go.ChangeShapes Go.WideShapes Go.ChangeAt Go.RowKit

theorem Rf.new_ex {n : Int} (w : World) (h1 : ¬ n < 1) (h2 : ¬ 32 < n) : Calls Try.prog 23 #[.int .i64 n] w fun e w' => ∃ s, e = .returned (.tuple #[.pointer (some ⟨s, 0, none⟩), .int .i64 0]) ∧ w.heap.size ≤ s ∧ Rf.PostAt w' s n 0 (.slice none 0 0) [] ∧ w.grownBy w' none :=
  (Rf.new_ok w h1 h2).mono fun _ _ ⟨he, hp, hg⟩ => ⟨_, he, Nat.le_refl _, hp, hg⟩
theorem IntsAt.of_own {base : Nat} {w : World} {v : Value} {e : TypeId} {l : List Int} (h : w.ownsRow base e 1 v l.length (l.map (Value.int .i64))) : IntsAt w v l := by
  have hlt := h.lt
  rcases h.2 with ⟨rfl, hn⟩ | ⟨g, cap, cur, rfl, hbg, hg, hnc, hcm, hcs, htake⟩
  · exact .inl ⟨none, 0, rfl, List.eq_nil_of_length_eq_zero hn⟩
  · by_cases hp : 0 < l.length
    · refine .inr ⟨g, 0, cap, rfl, (hlt g rfl).2, hp, hnc, hcm, fun i hi => ?_⟩
      have := h.cells (g := g) rfl i (.int .i64 (l.getD i 0)) (by simp [List.getD, hi])
      rw [WideShapes.add_plain] at this
      exact this
    · have : l = [] := List.eq_nil_of_length_eq_zero (by omega)
      subst this
      exact .inl ⟨_, _, rfl, rfl⟩
theorem map_take_succ {ls : List Po.Lt} {j : Nat} (hj : j < ls.length) : (ls.take (j + 1)).map (·.1) = (ls.take j).map (·.1) ++ [(ls.getD j Po.d0).1] := by
  have e : ls.getD j Po.d0 = ls[j] := by simp [List.getD, hj]
  rw [List.take_succ_eq_append_getElem hj, e, List.map_append]
  rfl

set_option maxHeartbeats 4000000 in
set_option maxRecDepth 100000 in
theorem steps_ok (ao : Option Addr) (cap : Nat) (l : List St) (nodes : Int) (w : World) (hok : okSteps l) (h1 : ¬ nodes < 1) (h2 : ¬ 32 < nodes) (h400 : l.length ≤ 400)
    (hx : ∀ i, i < l.length → ∃ b off, ao = some ⟨b, off, none⟩ ∧ b < w.heap.size ∧ fiveAt w b (off + i * 5) (l.getD i s0)) :
    Calls Try.prog 8 #[.int .i64 nodes, .slice ao l.length cap] w fun e w' => e = .returned (.bool true) ∧ Below w.heap.size w w' := by
  obtain ⟨i0, hi, hz0, hz1, hz2⟩ := info_parts info3
  obtain ⟨n, hn⟩ : ∃ n, l.length = n := ⟨_, rfl⟩
  have HOK : Hid (∀ i, i < n → (l.getD i s0).2.1 ≤ 9223372036854775807) := fun i hi => by
    have e : l.getD i s0 = l[i]'(by omega) := by simp [List.getD, show i < l.length by omega]
    rw [e]
    exact (hok _ (List.getElem_mem _)).2.1.2
  rw [hn] at hx h400 ⊢
  have HX : Hid (∀ i, i < n → ∃ b off, ao = some ⟨b, off, none⟩ ∧ b < w.heap.size ∧ fiveAt w b (off + i * 5) (l.getD i s0)) := hx
  have h4' : ¬ ((400 : Int) < (n : Int)) := by omega
  have HN1 : Hid (¬ nodes < 1 ∧ ¬ 32 < nodes) := ⟨h1, h2⟩
  clear hn hx hok h1 h2
  go_enter Try.func8, Try.ntmps8
  go_wp2_with fail
  refine (new_ex _ (by have := HN1.out.1; omega) (by have := HN1.out.2; omega)).mono ?_
  rintro e w1 ⟨s, rfl, hs, hp1, hg1⟩
  have HP1 : Hid (PostAt w1 s nodes 0 (.slice none 0 0) []) := hp1
  have HG1 : Hid (w.grownBy w1 none) := hg1
  clear hp1 hg1
  go_wp2_with fail
  refine (Rf.new_ex _ (by have := HN1.out.1; omega) (by have := HN1.out.2; omega)).mono ?_
  rintro e w2 ⟨r, rfl, hr, hp2, hg2⟩
  have HR2 : Hid (Rf.PostAt w2 r nodes 0 (.slice none 0 0) []) := hp2
  have HP2 : Hid (PostAt w2 s nodes 0 (.slice none 0 0) []) := HP1.out.still hg2
  have HB2 : Hid (Below w.heap.size w w2) := below_none (grown_trans HG1.out hg2) (Nat.le_refl _)
  have HSR : Hid (w.heap.size ≤ s ∧ w.heap.size ≤ r) := ⟨hs, Nat.le_trans HG1.out.size hr⟩
  clear hp2 hg2 hs hr HP1 HG1
  go_wp2
  go_loopw [44] (fun i wr => ∃ (k : Nat) (last : Int) (v u : Value) (ls : List Po.Lt), k ≤ n ∧ i = .int .i64 k ∧ Hid (PostAt wr s nodes last v ls) ∧ Hid (Rf.PostAt wr r nodes last u ls) ∧ Hid (Below w.heap.size w wr) ∧ Hid (last ≤ k))
    (fun i _ => n - (intOf i).toNat)
  case atStart => exact ⟨0, 0, _, _, [], Nat.zero_le _, rfl, HP2, HR2, HB2, Int.le_refl _⟩
  case round =>
    clear HP2 HR2 HB2
    obtain ⟨k, last, v, u, ls, hkn, rfl, HP, HR, HB, HL⟩ := hrel
    by_cases hlt : k < n
    · obtain ⟨b, off, rfl, hbw, hf⟩ := HX.out k hlt
      have hx1 := HOK.out k hlt
      obtain ⟨c0, c1, c2, c3, c4⟩ := hf.kept HB.out hbw
      generalize l.getD k s0 = st at c0 c1 c2 c3 c4 hx1
      obtain ⟨x0, x1, x2, x3, x4⟩ := st
      simp only at c0 c1 c2 c3 c4 hx1
      have ga := World.grownBy_alloc wr (.cells #[.int .i64 x0, .int .i64 x1, .int .i64 x2, .int .i64 x3, .string x4] 66) none
      have HPb : Hid (PostAt (wr.alloc (.cells #[.int .i64 x0, .int .i64 x1, .int .i64 x2, .int .i64 x3, .string x4] 66)) s nodes last v ls) := HP.out.still ga
      have HRb : Hid (Rf.PostAt (wr.alloc (.cells #[.int .i64 x0, .int .i64 x1, .int .i64 x2, .int .i64 x3, .string x4] 66)) r nodes last u ls) := HR.out.still ga
      have HBb : Hid (Below w.heap.size w (wr.alloc (.cells #[.int .i64 x0, .int .i64 x1, .int .i64 x2, .int .i64 x3, .string x4] 66))) := HB.out.trans (below_none ga HB.out.size)
      have HX1 : Hid (x1 ≤ 9223372036854775807) := hx1
      clear ga hx1 hbw hf
      go_wp2_with fail
      refine (does_any x0 x1 x2 x3 x4 _ HPb.out HRb.out (by have := HL.out; omega) HX1.out).mono ?_
      rintro e w5 ⟨rfl, last', v', u', ls', hp5, hr5, hl5, hb5⟩
      have HP5 : Hid (PostAt w5 s nodes last' v' ls') := hp5
      have HR5 : Hid (Rf.PostAt w5 r nodes last' u' ls') := hr5
      have HB5 : Hid (Below w.heap.size w w5) := HBb.out.trans (hb5 _ HSR.out.1 HSR.out.2)
      have HL5 : Hid (last' ≤ ((k + 1 : Nat) : Int)) := by
        have : last' ≤ ((k + 1 : Nat) : Int) := by have := HL.out; omega
        exact this
      clear hp5 hr5 hl5 hb5
      go_wp2
      go_roundw
      case rel => exact ⟨k + 1, last', v', u', ls', by omega, by go_num, HP5, HR5, HB5, HL5⟩
      case measure => simp [intOf]; omega
    · obtain rfl : k = n := by omega
      obtain ⟨w5, rfl⟩ : ∃ W, W = wr := ⟨_, rfl⟩
      obtain ⟨_, _, d2⟩ := HR.out.cells
      obtain ⟨ao5, cp5, rfl⟩ := row_slice HR.out.row
      obtain ⟨m, hm⟩ : ∃ m, ls.length = m := ⟨_, rfl⟩
      have HM : Hid (ls.length = m) := hm
      have hl : m ≤ 2048 := by rw [← hm]; exact HR.out.good.len
      rw [hm] at d2
      clear hm
      go_wp2
      go_loopw [11, 59] (fun u11 i wr => ∃ j : Nat, j ≤ m ∧ i = .int .i64 j ∧ wr.ownsRow w5.heap.size 3 1 u11 j (((ls.take j).map (·.1)).map (Value.int .i64)) ∧ Hid (Below w5.heap.size w5 wr))
        (fun _ i _ => m - (intOf i).toNat)
      case atStart => exact ⟨0, Nat.zero_le _, rfl, World.ownsRow_nil _ _ _ _, Below.refl _ _⟩
      case round =>
        obtain ⟨j, hjm, rfl, hr4, HBj⟩ := hrel
        by_cases hjl : j < m
        · have hjs : j < ls.length := by have := HM.out; omega
          rcases HR.out.row.2 with ⟨e, h0⟩ | ⟨g, cp', cur, e, hbg, _⟩
          · have := HM.out
            omega
          injection e with e1 e2 e3
          subst e1 e3
          obtain ⟨q0, q1, q2, q3⟩ := Rf.row_at HR.out.row hjs
          have k0 := (grown_of_below HBj.out none).cell q0 (by simp)
          have k1 := (grown_of_below HBj.out none).cell q1 (by simp)
          have k2 := (grown_of_below HBj.out none).cell q2 (by simp)
          have k3 := (grown_of_below HBj.out none).cell q3 (by simp)
          have HD : Hid _ := map_take_succ hjs
          generalize ls.getD j Po.d0 = p at k0 k1 k2 k3 HD
          obtain ⟨p0, p1, p2, p3⟩ := p
          simp only at k0 k1 k2 k3 HD
          clear q0 q1 q2 q3 hbg
          go_wp2_with (at_builtin; refine wpList_append_own _ rfl _ _ 39 rfl w5.heap.size 3 i0 (.int .i64 0) 1 8 Try.underlying39 hi hz0 hz1 hz2 rfl (by decide) _ _ _ rfl ((hr4.alloc _).alloc _) ⟨wr.heap.size + 1, 0, none⟩ 1 1 [.int .i64 p0] rfl rfl ?c1 ?c2 ?c3 ?c4 ?c5 ?_)
          case c2 => rfl
          case c3 => unfold maxLen; omega
          case c4 => omega
          case c5 => have := HBj.out.size; omega
          intro v7 w7 hown7 hg7 _
          have gA := World.grownBy_alloc wr (.cells #[.int .i64 p0, .int .i64 p1, .int .i64 p2, .string p3] 72) none
          have gB := World.grownBy_alloc (wr.alloc (.cells #[.int .i64 p0, .int .i64 p1, .int .i64 p2, .string p3] 72)) (.cells #[.int .i64 p0] 3) none
          have HB7 : Hid (Below w5.heap.size w5 w7) := (HBj.out.trans (below_none (grown_trans gA gB) HBj.out.size)).grown hg7 (by have := HBj.out.size; simp; omega) (fun j hj => (hr4.lt j hj).1)
          have HR7 : Hid (w7.ownsRow w5.heap.size 3 1 v7 (j + 1) (((ls.take (j + 1)).map (·.1)).map (Value.int .i64))) := by
            have : w7.ownsRow w5.heap.size 3 1 v7 (j + 1) (((ls.take (j + 1)).map (·.1)).map (Value.int .i64)) := by
              rw [HD.out, List.map_append]
              simpa using hown7
            exact this
          clear hown7 hg7 gA gB hr4
          go_wp2
          go_roundw
          case rel => exact ⟨j + 1, by omega, by go_num, HR7.out, HB7⟩
          case measure => simp [intOf]; omega
        · obtain rfl : j = m := by omega
          have hgr := grown_of_below HBj.out none
          have HU : Hid (IntsAt wr u11 (ls.map (·.1)) ∧ (∀ k, u11.ownBlock = some k → w5.heap.size ≤ k ∧ k < wr.heap.size)) := by
            have h1 : IntsAt wr u11 (ls.map (·.1)) := by
              have h := hr4
              rw [show ls.take j = ls by rw [← HM.out, List.take_length]] at h
              have e : j = (ls.map (·.1)).length := by rw [List.length_map]; exact HM.out.symm
              rw [e] at h
              exact IntsAt.of_own h
            exact ⟨h1, fun k hk => hr4.lt k hk⟩
          have HPj : Hid (PostAt wr s nodes last v ls) := HP.out.still hgr
          have HBw : Hid (Below w.heap.size w wr) := HB.out.trans (below_none hgr HB.out.size)
          clear hr4 hgr
          go_wp2_with fail
          refine (waiting_ex _ HPj.out).mono ?_
          rintro e w7 ⟨u7, rfl, hi7, hg7, _⟩
          have HI7 : Hid (IntsAt w7 u7 (ls.map (·.1)) ∧ IntsAt w7 u11 (ls.map (·.1))) := ⟨hi7, HU.out.1.still hg7⟩
          have HB7 : Hid (Below w.heap.size w w7) := HBw.out.trans (below_none hg7 HBw.out.size)
          clear hi7 hg7
          go_wp2_with fail
          refine (ints_same u7 u11 _ _ HI7.out.1 HI7.out.2).mono ?_
          rintro e w8 ⟨rfl, hg8⟩
          have HB8 : Hid (Below w.heap.size w w8) := HB7.out.trans (below_none hg8 HB7.out.size)
          clear hg8
          go_wp2_with fail
          refine (twice_any _).mono ?_
          rintro e w9 ⟨rfl, hg9⟩
          have HB9 : Hid (Below w.heap.size w w9) := HB8.out.trans (below_none hg9 HB8.out.size)
          clear hg9
          go_wp2
          go_ret
          exact ⟨rfl, HB9.out⟩

set_option maxHeartbeats 1000000 in
set_option maxRecDepth 100000 in
theorem steps_long (p : Option Addr) (n cap : Nat) (nodes : Int) (w : World) (h1 : ¬ nodes < 1) (h2 : ¬ 32 < nodes) (h : 400 < n) : Calls Try.prog 8 #[.int .i64 nodes, .slice p n cap] w fun e w' => e = .returned (.bool true) ∧ Below w.heap.size w w' := by
  have h' : (400 : Int) < (n : Int) := by omega
  have HN1 : Hid (¬ nodes < 1 ∧ ¬ 32 < nodes) := ⟨h1, h2⟩
  clear h1 h2
  go_enter Try.func8, Try.ntmps8
  go_wp2_with fail
  refine (new_ex _ (by have := HN1.out.1; omega) (by have := HN1.out.2; omega)).mono ?_
  rintro e w1 ⟨s, rfl, hs, hp1, hg1⟩
  have HG1 : Hid (w.grownBy w1 none) := hg1
  clear hp1 hg1
  go_wp2_with fail
  refine (Rf.new_ex _ (by have := HN1.out.1; omega) (by have := HN1.out.2; omega)).mono ?_
  rintro e w2 ⟨r, rfl, hr, hp2, hg2⟩
  have HG2 : Hid (w.grownBy w2 none) := grown_trans HG1.out hg2
  clear hp2 hg2 hs hr
  go_wp2_with fail
  refine (twice_any _).mono ?_
  rintro e w9 ⟨rfl, hg9⟩
  have HB9 : Hid (Below w.heap.size w w9) := below_none (grown_trans HG2.out hg9) (Nat.le_refl _)
  clear hg9
  go_wp2
  go_ret
  exact ⟨rfl, HB9.out⟩
set_option maxHeartbeats 1000000 in
set_option maxRecDepth 100000 in
theorem steps_arg (p : Option Addr) (n cap : Nat) (nodes : Int) (w : World) (h : nodes < 1 ∨ 32 < nodes) : Calls Try.prog 8 #[.int .i64 nodes, .slice p n cap] w fun e w' => e = .returned (.bool true) ∧ Below w.heap.size w w' := by
  have HN1 : Hid (nodes < 1 ∨ 32 < nodes) := h
  clear h
  go_enter Try.func8, Try.ntmps8
  go_wp2_with fail
  refine (new_arg _ HN1.out).mono ?_
  rintro e w1 ⟨rfl, rfl⟩
  go_wp2_with fail
  refine (Rf.new_arg _ HN1.out).mono ?_
  rintro e w2 ⟨rfl, rfl⟩
  go_wp2_with fail
  refine (twice_any _).mono ?_
  rintro e w9 ⟨rfl, hg9⟩
  have HB9 : Hid (Below w2.heap.size w2 w9) := below_none hg9 (Nat.le_refl _)
  clear hg9
  go_wp2
  go_ret
  exact ⟨rfl, HB9.out⟩

theorem steps_any (v : Value) (l : List St) (nodes : Int) (w : World) (hok : okSteps l) (hv : StepsAt w v l) : Calls Try.prog 8 #[.int .i64 nodes, v] w fun e w' => e = .returned (.bool true) ∧ Below w.heap.size w w' := by
  rcases hv with ⟨ao, cap, rfl, rfl⟩ | ⟨b, off, cap, rfl, hB, hp, hc, hm, hx⟩
  · by_cases h1 : nodes < 1
    · exact steps_arg _ _ _ _ _ (.inl h1)
    by_cases h2 : 32 < nodes
    · exact steps_arg _ _ _ _ _ (.inr h2)
    exact steps_ok ao cap [] nodes w hok h1 h2 (by simp) (fun i hi => absurd hi (by simp))
  · by_cases h1 : nodes < 1
    · exact steps_arg _ _ _ _ _ (.inl h1)
    by_cases h2 : 32 < nodes
    · exact steps_arg _ _ _ _ _ (.inr h2)
    by_cases h : l.length ≤ 400
    · exact steps_ok _ cap l nodes w hok h1 h2 h (fun i hi => ⟨b, off, rfl, hB, hx i hi⟩)
    · exact steps_long _ _ _ _ w h1 h2 (by omega)

set_option maxRecDepth 100000 in
theorem postSteps_lifted (os : Os) (started : os.Started) (H : Type) (enc : TypeId × Value → H) :
    ReturnsInHanded {} Try.checked os 8 .any (Rows.postStepsSpec.pre6 enc Try.prog Try.f8 Rows.postStepsRow.domain false) (Rows.postStepsSpec.post enc Try.prog Try.f8 false true false false) := by
  refine returnsInHanded_of_change (C := Try.checked) own started (by kernel_rfl) Try.func8
    (ChangeSpec.witness6 (enc := enc) (C := Try.checked) false ⟨#[], #[.int .i64 0, .slice none 0 0], []⟩ 8 (by kernel_rfl) (by kernel_rfl) (by kernel_rfl) (by kernel_rfl)) ?_
  intro W base args ds gs before hval0 hW hcnd _
  have hval : ∀ (j : Nat) t v, Try.f8.params[j]? = some t → args[j]? = some v → Value.okWide Try.prog W .any base t v := hval0
  have hW' := hW
  obtain ⟨p, q, hA0, hV, rfl, hfz, hnd⟩ := hW
  have hA : DataW.TrodAll enc Try.prog W 0 (fun _ => true) true Try.f8.params.toList args.toList ds p := hA0
  rw [Try.params8] at hA hval
  obtain ⟨v0, v1, d0, d1, p0, p1, rfl, rfl, rfl, h0, h1⟩ := trodAll_two hA
  obtain ⟨rfl, rfl⟩ := trodVars_none hV
  obtain ⟨a, rfl, rfl, rfl, w0⟩ := open_int Try.underlying3 (hval 0 3 v0 rfl rfl) h0
  obtain ⟨l, hl, hok⟩ := open_steps Try.underlying58 Try.underlying66 (by kernel_rfl) (by kernel_rfl) Try.underlying3 Try.underlying3 Try.underlying3 Try.underlying3 Try.underlying9 (okWide_slice Try.underlying58 (hval 1 58 v1 rfl rfl)) h1
  refine (steps_any v1 l a W hok hl).mono fun e W' ⟨he, hg⟩ => ⟨_, he, ?_⟩
  exact Law.post laidOut (by kernel_rfl) rfl Try.underlying4 hW' rfl rfl hg

theorem postSteps_holds : Rows.PostStepsSaid :=
  OpenClaim.holds_of_wide 8 Try.f8 rfl rfl rfl rfl rfl rfl rfl ⟨rfl, rfl, rfl, rfl, rfl⟩ rfl rfl rfl rfl rfl (by kernel_rfl) Try.func8 (by kernel_rfl)
    (of_decide_eq_true (by kernel_rfl)) (by unfold Func.isWrapper; first | (rw [if_pos (by decide +kernel)]; kernel_rfl) | (rw [if_neg (by decide +kernel)]; exact ⟨rfl, rfl⟩))
    (fun os started H enc _ => postSteps_lifted os started H enc)
#print axioms postSteps_holds
end Go.Proofs.Ytlhobncpifklkaa
