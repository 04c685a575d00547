/-
  A region that draws its order, whose last operation (number k: it waits for all that is taken first) may write what the others read: what S says must hold behind every operation but behind it. No program.
-/
import Derived.OrdersHeld
import Derived.WalkKit
namespace Go.Proofs.Ytdcknokggjbebaa
namespace Late
variable {P : Program} {ops : Array Oper} {Q : Exit → Act → World → Prop} {md : Region.Mode} {S : World → Prop} {k : Nat}

/-- Whatever order is picked from here on; and S holds as long as number k has not come up. -/
def any (P : Program) (md : Region.Mode) (ops : Array Oper) (Q : Exit → Act → World → Prop) (S : World → Prop) (k : Nat) : Nat → Array Bool → Act → World → Prop
  | 0, l, a, w => Region.ready md ops l = [] ∧ Q .normal a w
  | n + 1, l, a, w => (Region.ready md ops l = [] → Q .normal a w) ∧
      ∀ i ∈ Region.ready md ops l, wpOp P ops Q i (fun b v => (i ≠ k → S v) ∧ any P md ops Q S k n (l.setIfInBounds i true) b v) a w

theorem any_plain : ∀ (n : Nat) (l : Array Bool) (a : Act) (w : World), any P md ops Q S k n l a w → wpAny P md ops Q n l a w := by
  intro n
  induction n with
  | zero => exact fun _ _ _ h => h
  | succ n ih => exact fun l a w h => ⟨h.1, fun i hi => wpOp_mono (fun b v hb => ih _ b v hb.2) (h.2 i hi)⟩

/-- Number k waits for number i. -/
def waits (md : Region.Mode) (ops : Array Oper) (k i : Nat) : Bool := ((ops[k]?).map fun o => o.after.any fun e => Region.binds md e && e.on == i).getD false
theorem not_yet {i j : Nat} {l : Array Bool} (hw : waits md ops k i = true) (hi : i ∈ Region.ready md ops l) (hj : j ∈ Region.ready md ops l) : j ≠ k := by
  intro e
  subst e
  unfold waits at hw
  obtain ⟨_, o, ho, hall⟩ := mem_ready.1 hj
  rw [ho] at hw
  simp only [Option.map_some, Option.getD_some, Array.any_eq_true'] at hw
  obtain ⟨d, hd, hb⟩ := hw
  simp only [Bool.and_eq_true, beq_iff_eq] at hb
  have h1 := hall d hd hb.1
  have h0 := (mem_ready.1 hi).1
  rw [hb.2] at h1
  have e1 : l.getD i true = l.getD i false := by
    by_cases hlt : i < l.size
    · simp [hlt]
    · simp [Array.getElem?_eq_none (Nat.le_of_not_lt hlt)] at h1
  rw [e1, h1] at h0
  cases h0

theorem before {i : Nat} {oi : Oper} {v : Value} (hi : ops[i]? = some oi) (hsel : Region.noSelect ops = true) (hw : waits md ops k i = true)
    (hQ : ∀ c a w, Q (.panic c) (a.put oi.dst v) w → Q (.panic c) a w) :
    ∀ (n : Nat) (l : Array Bool) (a : Act) (w : World),
      (∀ j oj, ops[j]? = some oj → j ≠ i → l.getD j true = false → (∀ e ∈ oj.after, Region.binds md e = true → e.on ≠ i) → oi.apart ops oj = true) →
      i ∈ Region.ready md ops l → YieldsIf P ops S oi v a → S w → any P md ops Q S k n (l.setIfInBounds i true) (a.put oi.dst v) w → any P md ops Q S k (n + 1) l a w := by
  intro n
  induction n with
  | zero =>
    intro l a w _ hr hy hS hH
    refine ⟨fun h => absurd hr (by rw [h]; simp), fun j hj => ?_⟩
    by_cases e : j = i
    · subst e; exact hy.wpOp hi hS ⟨fun _ => hS, hH⟩
    · exact absurd (ready_mono hj e) (by rw [hH.1]; simp)
  | succ n ih =>
    intro l a w hfr hr hy hS hH
    refine ⟨fun h => absurd hr (by rw [h]; simp), fun j hj => ?_⟩
    by_cases e : j = i
    · subst e; exact hy.wpOp hi hS ⟨fun _ => hS, hH⟩
    · have hjk := not_yet hw hr hj
      obtain ⟨hun, oj, hoj, hall⟩ := mem_ready.1 hj
      have hno : ∀ d ∈ oj.after, Region.binds md d = true → d.on ≠ i := by
        intro d hd hb hdi
        have h1 := hall d hd hb
        have h0 := (mem_ready.1 hr).1
        rw [hdi] at h1
        by_cases hlt : i < l.size
        · simp [hlt] at h0 h1
          rw [h0] at h1
          cases h1
        · simp [Array.getElem?_eq_none (Nat.le_of_not_lt hlt)] at h1
      refine wpOp_mono (fun b u hb => ⟨fun _ => hb.2.1 hjk, ?_⟩) (wpOp_putIf hoj (hfr j oj hoj e hun hno) (fun cs b => Region.noSelect_spec hsel i oi cs b hi) (fun cs b => Region.noSelect_spec hsel j oj cs b hoj) hQ hy (hH.2 j (ready_mono hj e)))
      refine ih (l.setIfInBounds j true) b u (fun q oq hq hqi hqu hqn => hfr q oq hq hqi ?_ hqn) (ready_mono hr (Ne.symm e)) hb.1 (hb.2.1 hjk) ?_
      · by_cases hjq : j = q
        · subst hjq; exact hun
        · rw [getD_set_ne true hjq] at hqu; exact hqu
      · rw [Array.setIfInBounds_comm _ _ e]
        exact hb.2.2

/-- The post, of what does not panic. -/
def fine (Q : Exit → Act → World → Prop) : Exit → Act → World → Prop := fun e a w => e = .normal ∧ Q .normal a w
/-- Take number i first. -/
theorem take (i : Nat) {oi : Oper} (v : Value) {n : Nat} {l : Array Bool} {a : Act} {w : World} (hi : ops[i]? = some oi) (hsel : Region.noSelect ops = true) (hw : waits md ops k i = true)
    (hf : Region.free md ops l i = true) (hr : (Region.ready md ops l).contains i = true)
    (hg : oi.guard = none) (hy : ∀ w, S w → (execOp a.eval oi).run P w = .ok (.value v) w) (hS : S w) (h : any P md ops (fine Q) S k n (l.setIfInBounds i true) (a.put oi.dst v) w) : any P md ops (fine Q) S k (n + 1) l a w :=
  before hi hsel hw (fun _ _ _ h => by cases h.1) n l a w (Region.free_spec hi hf) (by simpa using hr) (.inl ⟨by simp [Region.wanted, hg], hy⟩) hS h
/-- One alone may come up. -/
theorem one (i : Nat) {oi : Oper} {n : Nat} {l : Array Bool} {a : Act} {w : World} (hi : ops[i]? = some oi) (hr : Region.ready md ops l = [i]) (hg : oi.guard = none)
    (h : oi.wp P a w (fun b v => (i ≠ k → S v) ∧ any P md ops (fine Q) S k n (l.setIfInBounds i true) b v) (fine Q)) : any P md ops (fine Q) S k (n + 1) l a w := by
  refine ⟨fun h0 => absurd (hr.symm.trans h0) (by simp), fun j hj => ?_⟩
  rw [hr] at hj
  obtain rfl : j = i := by simpa using hj
  unfold wpOp
  rw [hi]
  simp only [show Region.wanted oi (yielded ops a.tmps) = true by simp [Region.wanted, hg], if_true]
  exact .inl h
theorem done {l : Array Bool} {a : Act} {w : World} (hr : Region.ready md ops l = []) (h : Q .normal a w) : any P md ops (fine Q) S k 0 l a w := ⟨hr, rfl, h⟩
theorem start {id : Nat} {a : Act} {w : World} (S : World → Prop) (k : Nat) (hm : P.follows .mixedOrders = true) (h : any P .any ops (fine Q) S k ops.size (Array.replicate ops.size false) a w.drew) : (Code.region id ops true).wp P Q a w :=
  wp_mono (wp_region_any hm (any_plain _ _ _ _ h)) (fun e a w hq => by obtain ⟨rfl, h⟩ := hq; exact h)
end Late
end Go.Proofs.Ytdcknokggjbebaa
