/-
  What arguments stand for: a list of steps.
-/
import Derived.Test.YtocainggkdmojaaITwo
import Derived.Test.YtocainggkdmojaaLaw
import Derived.Lib.SmallJoins
import Derived.SizedLaws
import Derived.ChangeMaps5
namespace Go.Proofs.Ytocainggkdmojaa
open Go.Conc Go.RowKit Go.ChangeShapes Go.WideShapes Go.ChangeAt Go.Deep
theorem own : ownKnob Try.prog.godebug = none := by kernel_rfl
theorem laidOut : laidOutB Try.prog = true := by kernel_rfl
def EP : Enc (Int × ByteArray) := { sz := 2, cells := fun x => [.int .i64 x.1, .string x.2], len := fun _ => rfl, one := fun x u hu => by simp at hu; rcases hu with rfl | rfl <;> rfl }
/-- A slice that came in, element by element. -/
theorem open_row {α : Type} [Inhabited α] (E : Enc α) {H : Type} {enc : TypeId × Value → H} {P : Program} {w : World} {t e : TypeId} {fuel : Nat} {v : Value} {dx : DataW H × List MemPlace} (ht : P.underlying t = some (.slice e)) (ce : P.cellsOf e = E.sz) (hsz : 0 < E.sz) {Q : α → DataW H → Prop}
    (elem : ∀ n cs d pl, cs.length = E.sz → DataW.trod enc P w 0 (fun _ => true) true n e cs = some (d, pl) → ∃ x, cs = E.cells x ∧ Q x d)
    (hf : DataW.trod enc P w 0 (fun _ => true) true fuel t [v] = some dx) :
    ∃ l : List α, AtW E w v l ∧ ((dx.1 = .nil ∧ l = []) ∨ ∃ es sp : List (DataW H), dx.1 = .slice es sp ∧ es.length = l.length ∧ ∀ (i : Nat) (x : α), l[i]? = some x → ∃ d, es[i]? = some d ∧ Q x d) := by
  rcases open_slice ht hf with ⟨hcs, hx⟩ | ⟨a, len, cap, m, n, D, Pl, hcs, hb, hl, hm, hmm, hd, hx⟩
  · simp at hcs
    subst hcs
    exact ⟨[], .inl ⟨_, _, rfl, rfl⟩, .inl ⟨by rw [hx], rfl⟩⟩
  · simp at hcs
    subst hcs
    have hlm : len ≤ m := by rw [hmm]; split <;> omega
    have each : ∀ i, i < len → ∃ x : α, (∀ j u, (E.cells x)[j]? = some u → w.cell? ((a.add (i * E.sz)).add j) = some u) ∧ Q x (D i) := by
      intro i hi
      obtain ⟨cs', h1, h2⟩ := hx i (by omega)
      rw [ce] at h1
      obtain ⟨_, hlen, hcell⟩ := World.cells?_some h1
      obtain ⟨x, rfl, hq⟩ := elem _ _ _ _ hlen h2
      refine ⟨x, fun j u hj => ?_, hq⟩
      have hj8 : j < E.sz := by have := (List.getElem?_eq_some_iff.1 hj).1; rwa [E.len] at this
      have := hcell j hj8
      rw [this]
      exact hj
    obtain ⟨q, hq⟩ := choose_lt each
    have hlr : ((List.range len).map q).length = len := by simp
    refine ⟨(List.range len).map q, ?_, .inr ⟨_, _, by rw [hd], by simp, fun i x hi => ?_⟩⟩
    · by_cases hp : 0 < len
      · obtain ⟨b, off, spot⟩ := a
        obtain ⟨u0, hu0⟩ : ∃ u, (E.cells (q 0))[0]? = some u := ⟨_, List.getElem?_eq_getElem (by rw [E.len]; exact hsz)⟩
        have hc0 := (hq 0 hp).1 0 u0 hu0
        have hspot : spot = none := by simpa [Addr.add] using World.cell?_spot hc0
        subst hspot
        rw [WideShapes.add_plain, WideShapes.add_plain] at hc0
        have key : ∀ i, i < len → ∀ j u, (E.cells (q i))[j]? = some u → w.cell? ⟨b, off + (i * E.sz + j), none⟩ = some u := fun i hi j u hj => by
          have h0 := (hq i hi).1 j u hj
          rw [WideShapes.add_plain, WideShapes.add_plain, Nat.add_assoc] at h0
          exact h0
        refine .inr ⟨b, off, cap, by rw [hlr], trivial, World.block_lt_of_cell? _ _ hc0, by omega, by omega, hm, fun j u hj => ?_⟩
        have hlt : j < (E.flat ((List.range len).map q)).length := (List.getElem?_eq_some_iff.1 hj).1
        rw [E.flat_length, hlr] at hlt
        have hi : j / E.sz < len := (Nat.div_lt_iff_lt_mul hsz).2 hlt
        have hgi : ((List.range len).map q)[j / E.sz]? = some (q (j / E.sz)) := by simp [hi]
        have hmod : j % E.sz < E.sz := Nat.mod_lt _ hsz
        obtain ⟨u1, hu1⟩ : ∃ u, (E.cells (q (j / E.sz)))[j % E.sz]? = some u := ⟨_, List.getElem?_eq_getElem (by rw [E.len]; exact hmod)⟩
        have hfl := E.flat_at _ _ _ hgi _ _ hu1
        have hdm : j / E.sz * E.sz + j % E.sz = j := by rw [Nat.mul_comm]; exact Nat.div_add_mod _ _
        have h3 := key _ hi _ _ hu1
        rw [hdm] at hfl h3
        rw [hfl] at hj
        cases hj
        exact h3
      · have : len = 0 := by omega
        subst this
        exact .inl ⟨_, _, rfl, rfl⟩
    · have hi' : i < len := by have := (List.getElem?_eq_some_iff.1 hi).1; rwa [hlr] at this
      have hxq : x = q i := by simpa [hi'] using hi.symm
      subst hxq
      exact ⟨D i, by simp [hi'], (hq i hi').2⟩
theorem open_stp {H : Type} {enc : TypeId × Value → H} {w : World} {n : Nat} {cs : List Value} {d : DataW H} {pl : List MemPlace} (hl : cs.length = EP.sz) (h : DataW.trod enc Try.prog w 0 (fun _ => true) true n 32 cs = some (d, pl)) : ∃ x, cs = EP.cells x ∧ True := by
  obtain ⟨xs, m, _, _, _, hxl, hg⟩ := DataW.trod_struct Try.underlying32 h
  match cs, hl with
  | [c0, c1], _ =>
    have g0 := hg 0 _ rfl
    have g1 := hg 1 _ rfl
    have hx2 : xs.length = 2 := by rw [hxl]; rfl
    match xs, hx2 with
    | [y0, y1], _ =>
      simp only [List.getElem_toArray, List.getElem_cons_zero, List.getElem_cons_succ] at g0 g1
      simp only [show Try.prog.cellsOf 3 = 1 from by kernel_rfl, show Try.prog.cellsOf 9 = 1 from by kernel_rfl] at g0 g1
      simp at g0 g1
      obtain ⟨o, e0, _, _⟩ := DataW.trod_int Try.underlying3 g0
      obtain ⟨s, e1, _, _⟩ := DataW.trod_string Try.underlying9 g1
      simp only [List.cons.injEq, and_true] at e0 e1
      subst e0
      subst e1
      exact ⟨(o, s), rfl, trivial⟩
theorem open_steps {H : Type} {enc : TypeId × Value → H} {w : World} {r : Reach} {b0 : Nat} {v : Value} {d : DataW H} {p : List MemPlace} (hv : Value.okWide Try.prog w r b0 22 v) (h : DataW.Trod enc Try.prog w 0 (fun _ => true) true 22 v d p) : ∃ l, AtW EP w v l := by
  obtain ⟨a, len, cap, rfl⟩ := okWide_slice Try.underlying22 hv
  obtain ⟨fuel, hf⟩ := h
  have : Inhabited (Int × ByteArray) := ⟨(0, .empty)⟩
  obtain ⟨l, h1, -⟩ := open_row EP Try.underlying22 (by kernel_rfl) (by decide) (Q := fun _ _ => True) (fun n cs d pl hl h => open_stp hl h) (by simpa [Value.cells] using hf)
  exact ⟨l, h1⟩
end Go.Proofs.Ytocainggkdmojaa
