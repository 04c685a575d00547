/-
  Folders' entries: which are right, names apart as the size of a set. No program.
-/
import Derived.Test.YtacghcoikekfeaaGreatFPlain
import Derived.Test.YtacghcoikekfeaaGreatRow
import Derived.Test.YtacghcoikekfeaaGreatTab
import Derived.Maps.OwnSet
namespace Go.Proofs.YtacghcoikekfeaaGreat
open Go.RowKit Go.Maps
set_option maxRecDepth 100000
/-- An entry: name, cookie, the handle's number and generation. -/
abbrev Ent := ByteArray × Int × Int × Int
/-- A handle that an entry may have. -/
def Ho (no gen : Int) : Prop := (0 ≤ no ∧ no ≤ 23) ∧ (1 ≤ gen ∧ gen ≤ 1099511627776)
instance (no gen : Int) : Decidable (Ho no gen) := by unfold Ho; infer_instance
namespace Fo
def lastC (l : List Ent) : Nat → Int
  | 0 => 0
  | i + 1 => (l.getD i (.empty, 0, 0, 0)).2.1
def good (next : Int) (l : List Ent) (i : Nat) : Prop := ∀ x, l[i]? = some x → Nm.ok x.1 ∧ (lastC l i + 1 ≤ x.2.1 ∧ x.2.1 ≤ next) ∧ Ho x.2.2.1 x.2.2.2
def Pre (next : Int) (l : List Ent) (k : Nat) : Prop := ∀ i, i < k → good next l i
/-- No two names the same. -/
def apart (l : List Ent) : Prop := (l.map (·.1)).Nodup
def Right (l : List Ent) (next : Int) : Prop := (0 ≤ next ∧ next ≤ 1099511627776) ∧ Pre next l l.length ∧ apart l
open Classical in
noncomputable def err (l : List Ent) (next : Int) : Int := if Right l next then 0 else 4
theorem err_ok {l : List Ent} {next : Int} (h : Right l next) : err l next = 0 := by unfold err; rw [if_pos h]
theorem err_no {l : List Ent} {next : Int} (h : ¬ Right l next) : err l next = 4 := by unfold err; rw [if_neg h]
theorem err_or (l : List Ent) (next : Int) : (err l next = 0 ∧ Right l next) ∨ (err l next = 4 ∧ ¬ Right l next) := by
  by_cases h : Right l next
  · exact .inl ⟨err_ok h, h⟩
  · exact .inr ⟨err_no h, h⟩
theorem pre_zero (next : Int) (l : List Ent) : Pre next l 0 := fun i h => by omega
theorem pre_succ {next : Int} {l : List Ent} {k : Nat} (h : Pre next l k) (hg : good next l k) : Pre next l (k + 1) := fun i hi => by
  by_cases e : i = k
  · subst e
    exact hg
  · exact h i (by omega)
theorem lastC_succ {l : List Ent} {k : Nat} {x : Ent} (h : l[k]? = some x) : lastC l (k + 1) = x.2.1 := by
  simp [lastC, List.getD, h]
theorem lastC_bd {next : Int} {l : List Ent} {k : Nat} (h : Pre next l k) (hk : k ≤ l.length) (hn : 0 ≤ next) : 0 ≤ lastC l k ∧ lastC l k ≤ next := by
  induction k with
  | zero => exact ⟨Int.le_refl _, hn⟩
  | succ k ih =>
    have hx : l[k]? = some l[k] := List.getElem?_eq_getElem (by omega)
    have hg := h k (by omega) _ hx
    have := ih (fun i hi => h i (by omega)) (by omega)
    rw [lastC_succ hx]
    omega
theorem not_good {next : Int} {l : List Ent} {k : Nat} {x : Ent} (hx : l[k]? = some x) (h : ¬ (Nm.ok x.1 ∧ (lastC l k + 1 ≤ x.2.1 ∧ x.2.1 ≤ next) ∧ Ho x.2.2.1 x.2.2.2)) : err l next = 4 :=
  err_no fun hr => h (hr.2.1 k (List.getElem?_eq_some_iff.1 hx).1 x hx)
/-- The keys of the first k names. -/
def keys (l : List Ent) (k : Nat) : List Lit := (l.take k).map fun x => .string x.1.data.toList
def Sn {H : Type} (l : List Ent) (k : Nat) : DataW H := setOf (.agg []) (keys l k)
theorem Sn_zero {H : Type} (l : List Ent) : Sn (H := H) l 0 = .map [] := by simp [Sn, keys, setOf]
theorem Sn_succ {H : Type} {l : List Ent} {k : Nat} {x : Ent} (h : l[k]? = some x) : Sn (H := H) l (k + 1) = (Sn l k).put (.string x.1.data.toList) (.agg []) := by
  unfold Sn keys
  rw [List.take_add_one, List.map_append, h]
  exact setOf_snoc _ _ _
theorem fold_size : ∀ (xs acc : List Lit), (∀ x ∈ xs, WideAt.IsKeyLit x) → (xs.foldl addKey acc).length ≤ acc.length + xs.length ∧ ((xs.foldl addKey acc).length = acc.length + xs.length ↔ xs.Nodup ∧ ∀ x ∈ xs, x ∉ acc)
  | [], acc, _ => by simp
  | x :: r, acc, h => by
    have hk := h x (by simp)
    have hr := fun y hy => h y (List.mem_cons_of_mem x hy)
    rw [List.foldl_cons]
    by_cases hm : x ∈ acc
    · have e : addKey acc x = acc := by
        unfold addKey
        have ha : acc.any (fun y => y.sameKey x) = true := List.any_eq_true.2 ⟨x, hm, WideAt.sameKey_self hk⟩
        exact if_pos ha
      have ih := fold_size r acc hr
      rw [e]
      refine ⟨by simp; omega, fun h' => ?_, fun h' => absurd hm (h'.2 x (by simp))⟩
      simp at h'
      omega
    · have e : addKey acc x = acc ++ [x] := by
        unfold addKey
        rw [if_neg]
        intro h'
        obtain ⟨y, hy, hs⟩ := List.any_eq_true.1 h'
        exact hm (WideAt.sameKey_eq hs ▸ hy)
      have ih := fold_size r (acc ++ [x]) hr
      rw [e]
      simp only [List.length_append, List.length_cons, List.length_nil] at ih ⊢
      refine ⟨by omega, ?_⟩
      rw [show acc.length + (r.length + 1) = acc.length + (0 + 1) + r.length by omega, ih.2, List.nodup_cons]
      constructor
      · rintro ⟨h1, h2⟩
        refine ⟨⟨fun hx => (h2 x hx) (by simp), h1⟩, fun y hy => ?_⟩
        rcases List.mem_cons.1 hy with rfl | hy
        · exact hm
        · exact fun h3 => h2 y hy (by simp [h3])
      · rintro ⟨⟨h0, h1⟩, h2⟩
        refine ⟨h1, fun y hy h3 => ?_⟩
        rcases List.mem_append.1 h3 with h3 | h3
        · exact h2 y (by simp [hy]) h3
        · simp at h3
          subst h3
          exact h0 hy
theorem nodup_inj {α β : Type} {f : α → β} (hf : ∀ a b, f a = f b → a = b) : ∀ l : List α, (l.map f).Nodup ↔ l.Nodup
  | [] => by simp
  | x :: r => by
    rw [List.map_cons, List.nodup_cons, List.nodup_cons, nodup_inj hf r]
    constructor
    · rintro ⟨h1, h2⟩
      exact ⟨fun h => h1 (List.mem_map_of_mem h), h2⟩
    · rintro ⟨h1, h2⟩
      refine ⟨fun h => ?_, h2⟩
      obtain ⟨y, hy, e⟩ := List.mem_map.1 h
      exact h1 (hf _ _ e ▸ hy)
theorem size_all (l : List Ent) : Maps.size (Sn (H := Unit) l l.length) ≤ l.length ∧ (Maps.size (Sn (H := Unit) l l.length) = l.length ↔ apart l) := by
  have hk : ∀ x ∈ keys l l.length, WideAt.IsKeyLit x := fun x hx => by
    obtain ⟨y, _, rfl⟩ := List.mem_map.1 hx
    trivial
  have hl : (keys l l.length).length = l.length := by simp [keys]
  have := fold_size (keys l l.length) [] hk
  unfold Sn
  rw [size_setOf _ _ hk]
  simp only [List.length_nil, Nat.zero_add, hl, List.not_mem_nil, not_false_eq_true, implies_true, and_true] at this
  refine ⟨this.1, this.2.trans ?_⟩
  unfold apart keys
  rw [List.take_length, ← nodup_inj (f := fun s : ByteArray => Lit.string s.data.toList) (fun a b h => ?_) (l.map (·.1)), List.map_map]
  · rfl
  · cases a
    cases b
    simp at h
    simp [h]
theorem err_all {l : List Ent} {next : Int} (hn : 0 ≤ next ∧ next ≤ 1099511627776) (hp : Pre next l l.length) : err l next = if Maps.size (Sn (H := Unit) l l.length) < l.length then 4 else 0 := by
  have := size_all l
  by_cases h : apart l
  · rw [err_ok ⟨hn, hp, h⟩, if_neg]
    have := this.2.2 h
    omega
  · rw [err_no fun hr => h hr.2.2, if_pos]
    have h2 := this.1
    have h3 : ¬ Maps.size (Sn (H := Unit) l l.length) = l.length := fun e => h (this.2.1 e)
    omega
end Fo
end Go.Proofs.YtacghcoikekfeaaGreat
