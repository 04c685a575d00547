/-
  What an argument stands for: a reply.
-/
import Derived.Test.YtapjgkhbanpmjaaRows
import Derived.Test.YtapjgkhbanpmjaaRBase
import Derived.Test.YtapjgkhbanpmjaaLaw
import Derived.ProofKit
import Derived.Deep.SlicePairs
import Derived.Lib.SmallJoins
import Derived.SizedLaws
import Derived.ChangeMaps5
namespace Go.Proofs.Ytapjgkhbanpmjaa
open Go.ChangeShapes Go.WideShapes Go.ChangeAt Go.RowKit Go.Deep
open Ak

/-- A slice that came in, element by element. -/
theorem open_row {α : Type} [Inhabited α] (E : Enc α) {H : Type} {enc : TypeId × Value → H} {P : Program} {w : World} {t e : TypeId} {fuel : Nat} {v : Value} {dx : DataW H × List MemPlace} (ht : P.underlying t = some (.slice e)) (ce : P.cellsOf e = E.sz) (hsz : 0 < E.sz) {Q : α → DataW H → Prop}
    (elem : ∀ n cs d pl, cs.length = E.sz → DataW.trod enc P w 0 (fun _ => true) true n e cs = some (d, pl) → ∃ x, cs = E.cells x ∧ Q x d)
    (hf : DataW.trod enc P w 0 (fun _ => true) true fuel t [v] = some dx) :
    ∃ l : List α, AtW E w v l ∧ ((dx.1 = .nil ∧ l = []) ∨ ∃ es sp : List (DataW H), dx.1 = .slice es sp ∧ es.length = l.length ∧ ∀ (i : Nat) (x : α), l[i]? = some x → ∃ d, es[i]? = some d ∧ Q x d) := by
  rcases open_slice ht hf with ⟨hcs, hx⟩ | ⟨a, len, cap, m, n, D, Pl, hcs, hb, hl, hm, hmm, hd, hx⟩
  · simp at hcs
    subst hcs
    exact ⟨[], .inl ⟨_, _, rfl, rfl⟩, .inl ⟨by rw [hx], rfl⟩⟩
  · simp at hcs
    subst hcs
    have hlm : len ≤ m := by rw [hmm]; split <;> omega
    have each : ∀ i, i < len → ∃ x : α, (∀ j u, (E.cells x)[j]? = some u → w.cell? ((a.add (i * E.sz)).add j) = some u) ∧ Q x (D i) := by
      intro i hi
      obtain ⟨cs', h1, h2⟩ := hx i (by omega)
      rw [ce] at h1
      obtain ⟨_, hlen, hcell⟩ := World.cells?_some h1
      obtain ⟨x, rfl, hq⟩ := elem _ _ _ _ hlen h2
      refine ⟨x, fun j u hj => ?_, hq⟩
      have hj8 : j < E.sz := by have := (List.getElem?_eq_some_iff.1 hj).1; rwa [E.len] at this
      have := hcell j hj8
      rw [this]
      exact hj
    obtain ⟨q, hq⟩ := choose_lt each
    have hlr : ((List.range len).map q).length = len := by simp
    refine ⟨(List.range len).map q, ?_, .inr ⟨_, _, by rw [hd], by simp, fun i x hi => ?_⟩⟩
    · by_cases hp : 0 < len
      · obtain ⟨b, off, spot⟩ := a
        obtain ⟨u0, hu0⟩ : ∃ u, (E.cells (q 0))[0]? = some u := ⟨_, List.getElem?_eq_getElem (by rw [E.len]; exact hsz)⟩
        have hc0 := (hq 0 hp).1 0 u0 hu0
        have hspot : spot = none := by simpa [Addr.add] using World.cell?_spot hc0
        subst hspot
        rw [WideShapes.add_plain, WideShapes.add_plain] at hc0
        have key : ∀ i, i < len → ∀ j u, (E.cells (q i))[j]? = some u → w.cell? ⟨b, off + (i * E.sz + j), none⟩ = some u := fun i hi j u hj => by
          have h0 := (hq i hi).1 j u hj
          rw [WideShapes.add_plain, WideShapes.add_plain, Nat.add_assoc] at h0
          exact h0
        refine .inr ⟨b, off, cap, by rw [hlr], trivial, World.block_lt_of_cell? _ _ hc0, by omega, by omega, hm, fun j u hj => ?_⟩
        have hlt : j < (E.flat ((List.range len).map q)).length := (List.getElem?_eq_some_iff.1 hj).1
        rw [E.flat_length, hlr] at hlt
        have hi : j / E.sz < len := (Nat.div_lt_iff_lt_mul hsz).2 hlt
        have hgi : ((List.range len).map q)[j / E.sz]? = some (q (j / E.sz)) := by simp [hi]
        have hmod : j % E.sz < E.sz := Nat.mod_lt _ hsz
        obtain ⟨u1, hu1⟩ : ∃ u, (E.cells (q (j / E.sz)))[j % E.sz]? = some u := ⟨_, List.getElem?_eq_getElem (by rw [E.len]; exact hmod)⟩
        have hfl := E.flat_at _ _ _ hgi _ _ hu1
        have hdm : j / E.sz * E.sz + j % E.sz = j := by rw [Nat.mul_comm]; exact Nat.div_add_mod _ _
        have h3 := key _ hi _ _ hu1
        rw [hdm] at hfl h3
        rw [hfl] at hj
        cases hj
        exact h3
      · have : len = 0 := by omega
        subst this
        exact .inl ⟨_, _, rfl, rfl⟩
    · have hi' : i < len := by have := (List.getElem?_eq_some_iff.1 hi).1; rwa [hlr] at this
      have hxq : x = q i := by simpa [hi'] using hi.symm
      subst hxq
      exact ⟨D i, by simp [hi'], (hq i hi').2⟩
theorem open_ents {H : Type} {enc : TypeId × Value → H} {w : World} {fuel : Nat} {v : Value} {dx : DataW H × List MemPlace} (hf : DataW.trod enc Try.prog w 0 (fun _ => true) true fuel 27 [v] = some dx) : ∃ l, AtW EE w v l ∧ ∀ x ∈ l, x.1.size ≤ maxLen := by
  have : Inhabited (ByteArray × Int × Int × Int) := ⟨(.empty, 0, 0, 0)⟩
  obtain ⟨l, h1, h2⟩ := open_row EE Try.underlying27 (by kernel_rfl) (by decide) (Q := fun x _ => x.1.size ≤ maxLen) (fun n cs d pl hl h => by
    obtain ⟨xs, m, _, _, _, hxl, hg⟩ := DataW.trod_struct Try.underlying52 h
    match cs, hl with
    | [c0, c1, c2, c3], _ =>
      have g0 := hg 0 _ rfl
      have g1 := hg 1 _ rfl
      have g2 := hg 2 _ rfl
      have hx3 : xs.length = 3 := by rw [hxl]; rfl
      match xs, hx3 with
      | [y0, y1, y2], _ =>
        simp only [List.getElem_toArray, List.getElem_cons_zero, List.getElem_cons_succ] at g0 g1 g2
        simp only [show Try.prog.cellsOf 9 = 1 from by kernel_rfl, show Try.prog.cellsOf 3 = 1 from by kernel_rfl, show Try.prog.cellsOf 24 = 2 from by kernel_rfl] at g0 g1 g2
        simp at g0 g1 g2
        obtain ⟨z0, z1, m2, _, _, k0, k1⟩ := trod_struct2 Try.underlying24 g2
        simp only [show Try.prog.cellsOf 3 = 1 from by kernel_rfl] at k0 k1
        simp at k0 k1
        obtain ⟨s, e0, _, hs⟩ := DataW.trod_string Try.underlying9 g0
        obtain ⟨a, e1, _, _⟩ := DataW.trod_int Try.underlying3 g1
        obtain ⟨b, e2, _, _⟩ := DataW.trod_int Try.underlying3 k0
        obtain ⟨c, e3, _, _⟩ := DataW.trod_int Try.underlying3 k1
        simp only [List.cons.injEq, and_true] at e0 e1 e2 e3
        subst e0
        subst e1
        subst e2
        subst e3
        exact ⟨(s, a, b, c), rfl, hs⟩) hf
  refine ⟨l, h1, fun x hx => ?_⟩
  rcases h2 with ⟨_, rfl⟩ | ⟨es, sp, _, _, hq⟩
  · cases hx
  · obtain ⟨i, hi⟩ := List.mem_iff_getElem?.1 hx
    obtain ⟨d, _, hd⟩ := hq i x hi
    exact hd
theorem open_reply {H : Type} {enc : TypeId × Value → H} {w : World} {r : Reach} {b0 : Nat} {v : Value} {d : DataW H} {p : List MemPlace} (hv : Value.okWide Try.prog w r b0 29 v) (h : DataW.Trod enc Try.prog w 0 (fun _ => true) true 29 v d p) : ∃ (r : Rep) (u : Value), v = VR r u ∧ AtW EE w u r.ents ∧ ∀ x ∈ r.ents, x.1.size ≤ maxLen := by
  obtain ⟨cs, rfl, hsz⟩ := okWide_struct Try.underlying29 hv
  have hsz' : cs.size = 10 := hsz.trans (by kernel_rfl)
  obtain ⟨fuel, hf⟩ := h
  obtain ⟨xs, m, _, _, _, hxl, hg⟩ := DataW.trod_struct Try.underlying29 hf
  have hl : cs.toList.length = 10 := by simpa using hsz'
  obtain ⟨l⟩ := cs
  simp only at hl
  match l, hl with
  | [c0, c1, c2, c3, c4, c5, c6, c7, c8, c9], _ =>
    have hx6 : xs.length = 6 := by rw [hxl]; rfl
    have g0 := hg 0 _ rfl
    have g1 := hg 1 _ rfl
    have g2 := hg 2 _ rfl
    have g3 := hg 3 _ rfl
    have g4 := hg 4 _ rfl
    have g5 := hg 5 _ rfl
    match xs, hx6 with
    | [y0, y1, y2, y3, y4, y5], _ =>
      simp only [List.getElem_toArray, List.getElem_cons_zero, List.getElem_cons_succ] at g0 g1 g2 g3 g4 g5
      simp only [Value.cells, show Try.prog.cellsOf 9 = 1 from by kernel_rfl, show Try.prog.cellsOf 3 = 1 from by kernel_rfl, show Try.prog.cellsOf 22 = 1 from by kernel_rfl, show Try.prog.cellsOf 24 = 2 from by kernel_rfl, show Try.prog.cellsOf 26 = 4 from by kernel_rfl, show Try.prog.cellsOf 27 = 1 from by kernel_rfl] at g0 g1 g2 g3 g4 g5
      simp at g0 g1 g2 g3 g4 g5
      obtain ⟨z0, z1, m2, _, _, k0, k1⟩ := trod_struct2 Try.underlying24 g1
      obtain ⟨a0, a1, a2, a3, m3, _, _, j0, j1, j2, j3⟩ := Joins.trod_struct4 Try.underlying26 g2
      simp only [show Try.prog.cellsOf 3 = 1 from by kernel_rfl] at k0 k1 j0 j1 j2 j3
      simp at k0 k1 j0 j1 j2 j3
      obtain ⟨e, e0, _, _⟩ := DataW.trod_int Try.underlying22 g0
      obtain ⟨no, e1, _, _⟩ := DataW.trod_int Try.underlying3 k0
      obtain ⟨gen, e2, _, _⟩ := DataW.trod_int Try.underlying3 k1
      obtain ⟨ak, e3, _, _⟩ := DataW.trod_int Try.underlying3 j0
      obtain ⟨al, e4, _, _⟩ := DataW.trod_int Try.underlying3 j1
      obtain ⟨as0, e5, _, _⟩ := DataW.trod_int Try.underlying3 j2
      obtain ⟨at', e6, _, _⟩ := DataW.trod_int Try.underlying3 j3
      obtain ⟨data, e7, _, _⟩ := DataW.trod_string Try.underlying9 g3
      obtain ⟨ents, hv8, hs8⟩ := open_ents g4
      obtain ⟨n, e9, _, _⟩ := DataW.trod_int Try.underlying3 g5
      simp only [List.cons.injEq, and_true] at e0 e1 e2 e3 e4 e5 e6 e7 e9
      subst e0
      subst e1
      subst e2
      subst e3
      subst e4
      subst e5
      subst e6
      subst e7
      subst e9
      exact ⟨⟨e, no, gen, ak, al, as0, at', data, ents, n⟩, c8, rfl, hv8, hs8⟩
end Go.Proofs.Ytapjgkhbanpmjaa
