/-
  What a slice of steps stands for, their lists of items with it, and how long these can be.
-/
import Derived.Test.YtbjcleeiobaegaaSteps
import Derived.Test.YtbjcleeiobaegaaItems
import Derived.SizedLaws
namespace Go.Proofs.Ytbjcleeiobaegaa
open Go.ChangeShapes Go.WideShapes Go.ChangeAt Go.RowKit Go.Deep

theorem weights_mem_all {H : Type} {P : Program} {e : TypeId} {n : Nat} : ∀ {ds : List (DataW H)} {d : DataW H}, d ∈ ds → n ∈ d.weights P e → n ∈ DataW.weightsAll P e ds
  | d0 :: ds, d, hd, hn => by
    simp only [DataW.weightsAll, List.mem_append]
    rcases List.mem_cons.1 hd with rfl | hd
    · exact .inl hn
    · exact .inr (weights_mem_all hd hn)
  | [], _, hd, _ => by cases hd
def stOk2 (w : World) (t : St) : Prop := (-9223372036854775808 ≤ t.n ∧ t.n ≤ 9223372036854775807) ∧ t.most ≤ 9223372036854775807 ∧ ∃ p m c xs, t.l = .slice p m c ∧ ItemsAt w t.l xs ∧ xs.length ≤ 3518437208880
/-- The value v stands for the list l of steps. -/
def Steps2 (w : World) (v : Value) (l : List St) : Prop :=
  ∃ ao cap, v = .slice ao l.length cap ∧ l.length ≤ maxLen ∧ ∀ j, j < l.length → ∃ b off, ao = some ⟨b, off, none⟩ ∧ b < w.heap.size ∧ eightAt w b (off + j * 8) (l.getD j default) ∧ stOk2 w (l.getD j default)

theorem open_ssteps {H : Type} {enc : TypeId × Value → H} {P : Program} {w : World} {t e : TypeId} {f0 f1 f2 f3 f4 g0 g1 g2 g3 : Field} {el : TypeId} {v : Value} {d : DataW H} {p : List MemPlace}
    (ht : P.underlying t = some (.slice e)) (he : P.underlying e = some (.struct #[f0, f1, f2, f3, f4])) (ce : P.cellsOf e = 8)
    (o0 : f0.offset = 0 ∧ P.cellsOf f0.type = 1) (o1 : f1.offset = 1 ∧ P.cellsOf f1.type = 1) (o2 : f2.offset = 2 ∧ P.cellsOf f2.type = 1) (o3 : f3.offset = 3 ∧ P.cellsOf f3.type = 4) (o4 : f4.offset = 7 ∧ P.cellsOf f4.type = 1)
    (u0 : P.underlying f0.type = some (.int .i64)) (u1 : P.underlying f1.type = some (.int .i64)) (u2 : P.underlying f2.type = some (.int .i64)) (u3 : P.underlying f3.type = some (.struct #[g0, g1, g2, g3])) (u4 : P.underlying f4.type = some (.slice el))
    (q0 : g0.offset = 0 ∧ P.cellsOf g0.type = 1) (q1 : g1.offset = 1 ∧ P.cellsOf g1.type = 1) (q2 : g2.offset = 2 ∧ P.cellsOf g2.type = 1) (q3 : g3.offset = 3 ∧ P.cellsOf g3.type = 1)
    (k0 : P.underlying g0.type = some (.int .i64)) (k1 : P.underlying g1.type = some (.int .i64)) (k2 : P.underlying g2.type = some (.int .i64)) (k3 : P.underlying g3.type = some .string)
    (hl1 : oneCellFields P #[g0, g1, g2, g3] = true) (ul : P.underlying el = some (.struct #[g0, g1, g2, g3])) (cl : P.cellsOf el = 4) (bl : P.bytesOf el = 40) (hwt : ∀ n ∈ d.weights P t, n ≤ reachBytes)
    (hv : ∃ a len cap, v = .slice a len cap) (h : DataW.Trod enc P w 0 (fun _ => true) true t v d p) : ∃ l, Steps2 w v l := by
  obtain ⟨a, len, cap, rfl⟩ := hv
  obtain ⟨fuel, hf⟩ := h
  rcases open_slice ht (by simpa [Value.cells] using hf) with ⟨hcs, _⟩ | ⟨a', len', cap', m, n, D, Pl, hcs, hb, hl, hm, hmm, hd, hx⟩
  · simp at hcs
    obtain ⟨rfl, rfl, rfl⟩ := hcs
    exact ⟨[], none, 0, rfl, by simp, fun j hj => by simp at hj⟩
  · simp at hcs
    obtain ⟨rfl, rfl, rfl⟩ := hcs
    have hlm : len ≤ m := by rw [hmm]; split <;> omega
    have each : ∀ i, i < len → ∃ q : St, (∀ j u, [Value.int .i64 q.what, .int .i64 q.n, .int .i64 q.most, .int .i64 q.x.1, .int .i64 q.x.2.1, .int .i64 q.x.2.2.1, .string q.x.2.2.2, q.l][j]? = some u → w.cell? (a'.add (i * 8 + j)) = some u) ∧ stOk2 w q := by
      intro i hi
      obtain ⟨cs', h1, h2⟩ := hx i (by omega)
      rw [ce] at h1
      obtain ⟨_, hlen, hcell⟩ := World.cells?_some h1
      obtain ⟨xs, k, hk, hxy, _, hxl, hf⟩ := DataW.trod_struct he h2
      match cs', hlen with
      | [c0, c1, c2, c3, c4, c5, c6, c7], _ =>
        have t0 := hf 0 f0 rfl
        have t1 := hf 1 f1 rfl
        have t2 := hf 2 f2 rfl
        have t3 := hf 3 f3 rfl
        have t4 := hf 4 f4 rfl
        rw [o0.1, o0.2] at t0
        rw [o1.1, o1.2] at t1
        rw [o2.1, o2.2] at t2
        rw [o3.1, o3.2] at t3
        rw [o4.1, o4.2] at t4
        have hx5 : xs.length = 5 := by rw [hxl]; rfl
        match xs, hx5 with
        | [y0, y1, y2, y3, y4], _ =>
          simp at t0 t1 t2 t3 t4
          obtain ⟨x0, e0, _, _⟩ := DataW.trod_int u0 t0
          obtain ⟨x1, e1, _, wx1⟩ := DataW.trod_int u1 t1
          obtain ⟨x2, e2, _, wx2⟩ := DataW.trod_int u2 t2
          obtain ⟨zs, k', hk', _, _, hzl, hg⟩ := DataW.trod_struct u3 t3
          have s0 := hg 0 g0 rfl
          have s1 := hg 1 g1 rfl
          have s2 := hg 2 g2 rfl
          have s3 := hg 3 g3 rfl
          rw [q0.1, q0.2] at s0
          rw [q1.1, q1.2] at s1
          rw [q2.1, q2.2] at s2
          rw [q3.1, q3.2] at s3
          have hz4 : zs.length = 4 := by rw [hzl]; rfl
          match zs, hz4 with
          | [z0, z1, z2, z3], _ =>
            simp at s0 s1 s2 s3
            obtain ⟨v0, r0, _, _⟩ := DataW.trod_int k0 s0
            obtain ⟨v1, r1, _, _⟩ := DataW.trod_int k1 s1
            obtain ⟨v2, r2, _, _⟩ := DataW.trod_int k2 s2
            obtain ⟨v3, r3, _, _⟩ := DataW.trod_string k3 s3
            simp only [List.cons.injEq, and_true] at e0 e1 e2 r0 r1 r2 r3
            subst e0 e1 e2 r0 r1 r2 r3
            have hsl : ∃ p m c, c7 = .slice p m c := by
              rcases open_slice u4 t4 with ⟨hc, _⟩ | ⟨a2, l2, cp2, _, _, _, _, hc, _⟩
              · simp at hc
                exact ⟨_, _, _, hc⟩
              · simp at hc
                exact ⟨_, _, _, hc⟩
            obtain ⟨p7, m7, cc7, hc7⟩ := hsl
            subst hc7
            obtain ⟨l7, hi7, hd7⟩ := open_items u4 ul hl1 cl k0 k1 k2 k3 ⟨_, _, _, rfl⟩ (⟨_, by simpa [Value.cells] using t4⟩ : DataW.Trod enc P w 0 (fun _ => true) true f4.type (.slice p7 m7 cc7) y4.1 y4.2)
            have hz7 : l7.length ≤ 3518437208880 := by
              rcases hd7 with rfl | ⟨es, sp, hes, hlen7⟩
              · simp
              · have hw1 : (es.length + sp.length) * P.bytesOf el ∈ d.weights P t := by
                  have hD : D i = .agg [y0.1, y1.1, y2.1, y3.1, y4.1] := (Prod.mk.inj hxy).1
                  have hdd : d = .slice ((List.range len).map D) ((List.range (m - len)).map fun j => D (len + j)) := (Prod.mk.inj hd).1
                  rw [hdd]
                  simp only [DataW.weights, ht, List.mem_cons, List.mem_append]
                  right
                  left
                  refine weights_mem_all (List.mem_map.2 ⟨i, List.mem_range.2 hi, rfl⟩) ?_
                  rw [hD]
                  simp only [DataW.weights, he]
                  refine DataW.weights_mem_each (j := 4) (t := f4.type) (d := y4.1) rfl rfl _ ?_
                  rw [hes]
                  simp [DataW.weights, u4]
                have hw2 := hwt _ hw1
                rw [bl] at hw2
                have hrb : reachBytes ≤ 140737488351232 := by decide
                omega
            refine ⟨⟨x0, x1, x2, (v0, v1, v2, v3), .slice p7 m7 cc7⟩, fun j u hj => ?_, wf_le wx1, (wf_le wx2).2, p7, m7, cc7, l7, rfl, hi7, hz7⟩
            have hj8 : j < 8 := by have := (List.getElem?_eq_some_iff.1 hj).1; simpa using this
            have := hcell j hj8
            rw [add_add] at this
            rw [this]
            exact hj
    obtain ⟨q, hq⟩ := choose_lt each
    refine ⟨(List.range len).map q, some a', cap, by simp, by simp; omega, fun i hi => ?_⟩
    have hi' : i < len := by simpa using hi
    obtain ⟨hc, hok⟩ := hq i hi'
    obtain ⟨b, off, spot⟩ := a'
    have h00 := (hq 0 (by omega)).1 0 _ rfl
    have hspot : spot = none := by simpa [Addr.add] using World.cell?_spot h00
    subst hspot
    rw [WideShapes.add_plain] at h00
    have hgd : ((List.range len).map q).getD i default = q i := by simp [List.getD, hi']
    rw [hgd]
    refine ⟨b, off, rfl, World.block_lt_of_cell? _ _ h00, ?_, hok⟩
    have g0 := hc 0 _ rfl
    have g1 := hc 1 _ rfl
    have g2 := hc 2 _ rfl
    have g3 := hc 3 _ rfl
    have g4 := hc 4 _ rfl
    have g5 := hc 5 _ rfl
    have g6 := hc 6 _ rfl
    have g7 := hc 7 _ rfl
    rw [WideShapes.add_plain] at g0 g1 g2 g3 g4 g5 g6 g7
    simp only [← Nat.add_assoc, Nat.add_zero] at g0 g1 g2 g3 g4 g5 g6 g7
    exact ⟨g0, g1, g2, g3, g4, g5, g6, g7⟩
end Go.Proofs.Ytbjcleeiobaegaa
