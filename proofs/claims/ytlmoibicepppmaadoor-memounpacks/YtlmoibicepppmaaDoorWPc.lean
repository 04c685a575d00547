/-
  No program. A drawn region with calls that answer the same in every world and leave it as it is: they may be taken first.
-/
import Derived.OrdersHeld
import Derived.Deep.RegionLaw
namespace Go.Proofs.YtlmoibicepppmaaDoor
open Go
set_option maxRecDepth 100000
namespace Pc
section
variable {P : Program} {ops : Array Oper} {Q : Exit → Act → World → Prop} {md : Region.Mode}
/-- The operation yields v in whatever world and leaves that; so it does in every frame in which it is the same. -/
def Ys (P : Program) (ops : Array Oper) (o : Oper) (v : Value) (a : Act) : Prop :=
  Region.wanted o (yielded ops a.tmps) = true ∧ ∀ a' : Act, execOp a'.eval o = execOp a.eval o → ∀ (w : World) (K : Act → World → Prop) (Q : Exit → Act → World → Prop), K (a'.put o.dst v) w → o.wp P a' w K Q
theorem Ys.same {o : Oper} {v : Value} {a b : Act} (h : Ys P ops o v a) (he : execOp b.eval o = execOp a.eval o) (hw : Region.wanted o (yielded ops b.tmps) = Region.wanted o (yielded ops a.tmps)) : Ys P ops o v b :=
  ⟨hw.trans h.1, fun a' ha => h.2 a' (ha.trans he)⟩
theorem Ys.step {i : Nat} {o : Oper} {v : Value} {a : Act} (hi : ops[i]? = some o) (h : Ys P ops o v a) {K : Act → World → Prop} {w : World} (hk : K (a.put o.dst v) w) : wpOp P ops Q i K a w := by
  unfold Go.wpOp
  simp only [hi, h.1, if_true]
  exact .inl (h.2 a rfl w K Q hk)
/-- A call of a function that leaves the world. -/
theorem Ys.call {o : Oper} {v : Value} {a : Act} {f : FuncId} {args : Array Value} (hw : Region.wanted o (yielded ops a.tmps) = true) (he : ∀ w, (execOp a.eval o).run P w = .ok (.enter f args) w) (hc : ∀ w, Calls P f args w fun e w' => e = .returned v ∧ w' = w) : Ys P ops o v a := by
  refine ⟨hw, fun a' ha w K Q hk => ?_⟩
  unfold Oper.wp
  rw [ha, he w, Oper.upon_enter]
  refine (hc w).mono ?_
  rintro e w' ⟨rfl, rfl⟩
  exact hk
theorem put {j : Nat} {oi oj : Oper} {v : Value} (hj : ops[j]? = some oj) (hap : oi.apart ops oj = true) (hsi : ∀ cs b, oi.op ≠ .select cs b) (hsj : ∀ cs b, oj.op ≠ .select cs b)
    (hQ : ∀ c a w, Q (.panic c) (a.put oi.dst v) w → Q (.panic c) a w) {K : Act → World → Prop} {a : Act} {w : World} (hy : Ys P ops oi v a) (h : wpOp P ops Q j K (a.put oi.dst v) w) :
    wpOp P ops Q j (fun b w' => Ys P ops oi v b ∧ K (b.put oi.dst v) w') a w := by
  -- the frame that the other operation leaves is one in which the first is the same: so the law for what yields by an equation serves, at an operation that yields so
  obtain ⟨h1, h2, h3⟩ := Oper.apart_spec hap
  have kp : ∀ (b : Act), Ys P ops oi v b → ∀ u, Ys P ops oi v (b.put oj.dst u) := fun b hb u => hb.same (execOp_put oi hsi b oj.dst u h3) (wanted_put oi b oj.dst u h3)
  have kd : ∀ d, Ys P ops oi v { a with defers := d :: a.defers } := fun d => hy.same rfl rfl
  have hc : ∀ (b : Act) (u : Value), (b.put oi.dst v).put oj.dst u = (b.put oj.dst u).put oi.dst v := fun b u => Act.put_comm b v u h2
  unfold wpOp at h ⊢
  simp only [hj] at h ⊢
  rw [wanted_put oj a oi.dst v h1] at h
  by_cases hw : Region.wanted oj (yielded ops a.tmps) = true
  · rw [if_pos hw] at h ⊢
    unfold Oper.asks Oper.wp at h ⊢
    rw [execOp_put oj hsj a oi.dst v h1] at h
    refine h.imp ?_ id
    generalize (execOp a.eval oj).run P w = r
    intro h
    match r, h with
    | .ok (.value u) w', h => exact ⟨kp a hy u, hc a u ▸ h⟩
    | .ok .skip w', h => exact ⟨kp a hy _, hc a undef ▸ h⟩
    | .ok (.defer d) w', h =>
      refine ⟨kp _ (kd d) _, ?_⟩
      rw [← hc, ← Act.put_defers]
      exact h
    | .ok (.enter f args) w', h =>
      refine Calls.mono h fun e w'' he => ?_
      match e, he with
      | .returned u, he => exact ⟨kp a hy u, hc a u ▸ he⟩
      | .panicked c, he => exact hQ _ _ _ he
      | .outgrown, he => exact he
    | .ok (.row row args) w', h => exact Rows.mono h fun u w'' he => ⟨kp a hy u, hc a u ▸ he⟩
    | .halt (.panic u) w', h => exact hQ _ _ _ h
  · rw [if_neg hw] at h ⊢
    exact ⟨kp a hy _, hc a undef ▸ h⟩
theorem first {i : Nat} {oi : Oper} {v : Value} (hi : ops[i]? = some oi) (hsel : ∀ (j : Nat) (o : Oper) cs b, ops[j]? = some o → o.op ≠ .select cs b) (hQ : ∀ c a w, Q (.panic c) (a.put oi.dst v) w → Q (.panic c) a w) :
    ∀ (n : Nat) (l : Array Bool) (a : Act) (w : World), (∀ j oj, ops[j]? = some oj → j ≠ i → l.getD j true = false → (∀ e ∈ oj.after, Region.binds md e = true → e.on ≠ i) → oi.apart ops oj = true) →
      i ∈ Region.ready md ops l → Ys P ops oi v a → wpAny P md ops Q n (l.setIfInBounds i true) (a.put oi.dst v) w → wpAny P md ops Q (n + 1) l a w
  | 0, l, a, w, _, hr, hy, H => ⟨fun h => (by rw [h] at hr; cases hr), fun j hj => by
      by_cases hji : j = i
      · subst hji; exact hy.step hi H
      · have := ready_mono hj hji
        rw [H.1] at this
        cases this⟩
  | n + 1, l, a, w, hfree, hr, hy, H => ⟨fun h => (by rw [h] at hr; cases hr), fun j hj => by
      by_cases hji : j = i
      · subst hji; exact hy.step hi H
      · obtain ⟨hjun, oj, hoj, hall⟩ := mem_ready.1 hj
        have hiun := (mem_ready.1 hr).1
        have hnot : ∀ e ∈ oj.after, Region.binds md e = true → e.on ≠ i := fun e he hb heq => by
          have h1 := hall e he hb
          rw [heq] at h1
          rcases Nat.lt_or_ge i l.size with h' | h'
          · simp [h'] at hiun h1; rw [hiun] at h1; cases h1
          · simp [Array.getElem?_eq_none h'] at h1
        have h2 := put hoj (hfree j oj hoj hji hjun hnot) (fun cs b => hsel i oi cs b hi) (fun cs b => hsel j oj cs b hoj) hQ hy (H.2 j (ready_mono hj hji))
        refine wpOp_mono (fun b w' h3 => first hi hsel hQ n (l.setIfInBounds j true) b w' (fun k ok hk hki hun hno => hfree k ok hk hki ?_ hno) (ready_mono hr (Ne.symm hji)) h3.1 ?_) h2
        · by_cases hjk : j = k
          · subst hjk; exact hjun
          · rw [getD_set_ne true hjk] at hun; exact hun
        · rw [Array.setIfInBounds_comm _ _ hji]
          exact h3.2⟩
/-- A call that leaves every world is taken first. -/
theorem take {i : Nat} {oi : Oper} {v : Value} {n : Nat} {l : Array Bool} {a : Act} {w : World} (hi : ops[i]? = some oi) (hs : Region.noSelect ops = true) (hf : Region.free md ops l i = true) (hr : (Region.ready md ops l).contains i = true)
    (hQ : ∀ c a w, Q (.panic c) (a.put oi.dst v) w → Q (.panic c) a w) (hy : Ys P ops oi v a) (h : wpAny P md ops Q n (l.setIfInBounds i true) (a.put oi.dst v) w) : wpAny P md ops Q (n + 1) l a w :=
  first hi (Region.noSelect_spec hs) hQ n l a w (Region.free_spec hi hf) (by simpa using hr) hy h
end
end Pc
end Go.Proofs.YtlmoibicepppmaaDoor
