/-
  A post and the reference's post side by side: what turns one leaves the other; Lose; the law's ref; letters compared.
-/
import Derived.Test.YtlhobncpifklkaaPRefF
import Derived.Test.YtlhobncpifklkaaPRefB
import Derived.Test.YtlhobncpifklkaaPTwice
import Derived.Test.YtlhobncpifklkaaPSteps
namespace Go.Proofs.Ytlhobncpifklkaa
open Go.RowKit

theorem row_turned {w w' : World} {b1 s : Nat} {e1 e2 : TypeId} {s1 s2 n1 n2 b2 : Nat} {v u : Value} {x1 x2 : List Value} (h : w.ownsRow b1 e1 s1 u n1 x1) (h2 : w.ownsRow b2 e2 s2 v n2 x2) (he : e1 ≠ e2) (ht : Turns w w' s v) (hs : some s ≠ u.ownBlock) : w'.ownsRow b1 e1 s1 u n1 x1 := by
  have hne := rows_ne h h2 he
  refine ⟨h.1, ?_⟩
  rcases h.2 with h3 | ⟨g, cap, cur, rfl, h3, h4, h5⟩
  · exact .inl h3
  · refine .inr ⟨g, cap, cur, rfl, h3, ?_, h5⟩
    refine (ht.block g (Array.getElem?_eq_some_iff.1 h4).1 (fun e => hs (by rw [e]; rfl)) ?_).trans h4
    rcases hne with hne | hne
    · simp [Value.ownBlock] at hne
    · exact hne
theorem ref_turned {w w' : World} {s r : Nat} {nodes last nodes' last' : Int} {v u : Value} {ls ls' : List Po.Lt} (h : Rf.PostAt w r nodes last u ls) (hc : PostAt w s nodes' last' v ls') (ht : Turns w w' s v) : Rf.PostAt w' r nodes last u ls := by
  have hsr : r ≠ s := fun e => by
    have h1 := h.block
    rw [e, hc.block] at h1
    injection h1 with h1
    injection h1 with h2 h3
    exact absurd h3 (by decide)
  exact ⟨(ht.block r h.lt hsr (block_ne hc.row h.block (by decide))).trans h.block, row_turned h.row hc.row (by decide) ht (block_ne h.row hc.block (by decide)), h.good⟩
theorem post_turned {w w' : World} {s r : Nat} {nodes last nodes' last' : Int} {v u : Value} {ls ls' : List Po.Lt} (h : PostAt w s nodes last v ls) (hc : Rf.PostAt w r nodes' last' u ls') (ht : Turns w w' r u) : PostAt w' s nodes last v ls := by
  have hsr : s ≠ r := fun e => by
    have h1 := h.block
    rw [e, hc.block] at h1
    injection h1 with h1
    injection h1 with h2 h3
    exact absurd h3 (by decide)
  exact ⟨(ht.block s h.lt hsr (block_ne hc.row h.block (by decide))).trans h.block, row_turned h.row hc.row (by decide) ht (block_ne h.row hc.block (by decide)), h.good⟩
/-- Another block stays, if it is of another kind. -/
theorem post_leaves {w w' : World} {s X : Nat} {nodes last : Int} {v : Value} {ls : List Po.Lt} {c : Array Value} {t : TypeId} (h : PostAt w s nodes last v ls) (ht : Turns w w' s v) (hX : w.heap[X]? = some (.cells c t (0, 0))) (h1 : t ≠ 84) (h2 : t ≠ 88) : w'.heap[X]? = some (.cells c t (0, 0)) := by
  refine (ht.block X (Array.getElem?_eq_some_iff.1 hX).1 (fun e => ?_) (block_ne h.row hX h2)).trans hX
  rw [e, h.block] at hX
  injection hX with hX
  injection hX with h3 h4
  exact h1 h4.symm
theorem ref_leaves {w w' : World} {s X : Nat} {nodes last : Int} {v : Value} {ls : List Po.Lt} {c : Array Value} {t : TypeId} (h : Rf.PostAt w s nodes last v ls) (ht : Turns w w' s v) (hX : w.heap[X]? = some (.cells c t (0, 0))) (h1 : t ≠ 70) (h2 : t ≠ 72) : w'.heap[X]? = some (.cells c t (0, 0)) := by
  refine (ht.block X (Array.getElem?_eq_some_iff.1 hX).1 (fun e => ?_) (block_ne h.row hX h2)).trans hX
  rw [e, h.block] at hX
  injection hX with hX
  injection hX with h3 h4
  exact h1 h4.symm

/-- Lose, at any post. -/
theorem lose_any {s : Nat} {nodes last : Int} {v : Value} {ls : List Po.Lt} (n : Int) (w : World) (h : PostAt w s nodes last v ls) :
    Calls Try.prog 38 #[.pointer (some ⟨s, 0, none⟩), .int .i64 n] w fun e w' => ∃ v', e = .returned (.int .i64 (seeErr (Po.get ls n))) ∧ PostAt w' s nodes last v' (Po.drop ls n) ∧ Turns w w' s v ∧ Moves w v v' := by
  have HP : Hid (PostAt w s nodes last v ls) := h
  clear h
  go_enter Try.func38, Try.ntmps38
  go_wp2_with fail
  refine (take_any n _ HP.out).mono ?_
  rintro e w1 ⟨v', rfl, hp, ht, hm⟩
  have HE : Hid (PostAt w1 s nodes last v' (Po.drop ls n) ∧ Turns w w1 s v ∧ Moves w v v') := ⟨hp, ht, hm⟩
  clear hp ht hm
  generalize (Po.get ls n).getD Po.d0 = x
  obtain ⟨se, hse⟩ : ∃ se, seeErr (Po.get ls n) = se := ⟨_, rfl⟩
  have HSE : Hid (seeErr (Po.get ls n) = se) := hse
  rw [hse]
  clear hse
  obtain ⟨x0, x1, x2, x3⟩ := x
  unfold letter
  simp only
  go_wp2
  go_ret
  rw [HSE.out]
  refine ⟨v', rfl, HE.out.1.still (World.grownBy_alloc _ _ _), ?_, HE.out.2.2⟩
  have ga := World.grownBy_alloc w1 (.cells #[.int .i64 x0, .int .i64 x1, .int .i64 x2, .string x3] 88) none
  exact HE.out.2.1.trans HE.out.2.2 (.of_grown ga)

/-- The law's ref: the reference's letter. -/
theorem ref_any (x : Po.Lt) (w : World) : Calls Try.prog 37 #[letter x] w fun e w' => e = .returned (letter x) ∧ w.grownBy w' none := by
  obtain ⟨x0, x1, x2, x3⟩ := x
  unfold letter
  simp only
  go_enter Try.func37, Try.ntmps37
  go_wp2
  refine bodyPost_ret (v := .agg #[.int .i64 x0, .int .i64 x1, .int .i64 x2, .string x3]) (by simp [results, Try.results37, go_sem]) rfl ⟨rfl, ?_⟩
  exact grown_trans (World.grownBy_alloc _ _ _) (World.grownBy_alloc _ _ _)

theorem ref_four (y0 y1 y2 : Int) (y3 : ByteArray) (w : World) : Calls Try.prog 37 #[.agg #[.int .i64 y0, .int .i64 y1, .int .i64 y2, .string y3]] w fun e w' => e = .returned (.agg #[.int .i64 y0, .int .i64 y1, .int .i64 y2, .string y3]) ∧ w.grownBy w' none := ref_any (y0, y1, y2, y3) w
theorem guard72 : Try.prog.eqGuardType Try.prog.depth 72 = false := by kernel_rfl
theorem ref_eql (x : Po.Lt) (w : World) : (binOp .eql 72 (letter x) (letter x)).run Try.prog w = .ok (.bool true) w := by
  obtain ⟨x0, x1, x2, x3⟩ := x
  unfold letter
  have u3 := Try.underlying3
  have u9 := Try.underlying9
  have hS : Try.prog.underlying 72 = some (.struct (Try.prog.fieldsOf 72)) := by kernel_rfl
  have hp : Try.prog.stoodInHeld 72 = false := by kernel_rfl
  rw [run_eql_struct, show (10000 : Nat) = 9999 + 1 from rfl, run_equalIn_agg w 9999 72 _ _ hS hp]
  simp only [Program.fieldsOf, Try.underlying72]
  go_simp

/-- A world that is w grown by blocks of its own. -/
structure Grw (w : World) where
  out : World
  grown : w.grownBy out none
theorem grw_some (w : World) : Nonempty (Grw w) := ⟨⟨w, grown_refl _ _⟩⟩
/-- A region that only reads, and whose callees read and lay blocks of their own, walked once. -/
theorem wp_region_grw {P : Program} {id : Nat} {Q : Exit → Act → World → Prop} {a : Act} {w : World} {l : List Oper} (hm : P.follows .mixedOrders = true) (hB : Region.lexB .any l.toArray = true)
    (h : wpQuiet P l.toArray (fun w' => ∃ p : Grw w, w' = p.out) (fun a' => ∀ w', (∃ p : Grw w, w' = p.out) → Q .normal a' w') l a) : (Code.region id l.toArray true).wp P Q a w :=
  wp_region_quiet (C := fun w' => ∃ p : Grw w, w' = p.out) hm hB ⟨⟨w.drew, ⟨rfl, rfl, rfl, Nat.le_refl _, fun _ _ _ => rfl⟩⟩, rfl⟩ (by simpa using h)
theorem calls_grw {P : Program} {f : FuncId} {args : Array Value} {w W : World} {v : Value} (hg : w.grownBy W none)
    (h : Calls P f args W fun e w' => e = .returned v ∧ W.grownBy w' none) : Calls P f args W fun e w'' => e = .returned v ∧ ∃ p : Grw w, w'' = p.out :=
  h.mono fun _ w' ⟨he, hw⟩ => ⟨he, ⟨w', grown_trans hg hw⟩, rfl⟩
end Go.Proofs.Ytlhobncpifklkaa
