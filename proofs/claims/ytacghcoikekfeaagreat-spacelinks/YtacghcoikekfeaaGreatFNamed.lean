/-
  folder.refuse, folder.named and the function that it makes, IndexFunc and ContainsFunc with it, folder.place, folder.Find.
-/
import Derived.Test.YtacghcoikekfeaaGreatFCheck
namespace Go.Proofs.YtacghcoikekfeaaGreat
open Go.ChangeShapes Go.WideShapes Go.ChangeAt Go.RowKit Go.Deep
set_option maxRecDepth 100000
namespace Fo
/-- The place of the first entry that p knows; -1: none. -/
def at' (p : Ent → Bool) (l : List Ent) : Int := match l.findIdx? p with | some k => (k : Int) | none => -1
theorem at_hit {p : Ent → Bool} {l : List Ent} {k : Nat} {x : Ent} (h : l[k]? = some x) (hp : p x = true) (hb : ∀ j y, j < k → l[j]? = some y → p y = false) : at' p l = k := by
  have hk := (List.getElem?_eq_some_iff.1 h).1
  have : l.findIdx? p = some k := List.findIdx?_eq_some_iff_getElem.2 ⟨hk, by
    have e := (List.getElem?_eq_some_iff.1 h).2
    rw [e]
    exact hp, fun j hj => by
    rw [hb j l[j] hj (List.getElem?_eq_getElem _)]
    exact Bool.false_ne_true⟩
  unfold at'
  rw [this]
theorem at_miss {p : Ent → Bool} {l : List Ent} (hb : ∀ j y, j < l.length → l[j]? = some y → p y = false) : at' p l = -1 := by
  have : l.findIdx? p = none := List.findIdx?_eq_none_iff.2 fun x hx => by
    obtain ⟨j, hj⟩ := List.mem_iff_getElem?.1 hx
    exact hb j x (List.getElem?_eq_some_iff.1 hj).1 hj
  unfold at'
  rw [this]
theorem at_or (p : Ent → Bool) (l : List Ent) : (at' p l = -1 ∧ ∀ x ∈ l, p x = false) ∨ ∃ (k : Nat) (x : Ent), at' p l = k ∧ l[k]? = some x ∧ p x = true ∧ ∀ j y, j < k → l[j]? = some y → p y = false := by
  unfold at'
  cases h : l.findIdx? p with
  | none => exact .inl ⟨rfl, List.findIdx?_eq_none_iff.1 h⟩
  | some k =>
    obtain ⟨hk, h1, h2⟩ := List.findIdx?_eq_some_iff_getElem.1 h
    refine .inr ⟨k, l[k], rfl, List.getElem?_eq_getElem hk, h1, fun j y hj hy => ?_⟩
    have := h2 j hj
    rw [(List.getElem?_eq_some_iff.1 hy).2] at this
    simpa using this
def called (s : ByteArray) (x : Ent) : Bool := x.1.toList == s.toList
def past (c : Int) (x : Ent) : Bool := decide (c < x.2.1)
/-- What is wrong with a folder or a name. -/
noncomputable def ask (l : List Ent) (next : Int) (s : ByteArray) : Int := if Fo.err l next = 0 then Nm.err s else 4
theorem ask_wrong {l : List Ent} {next : Int} {s : ByteArray} (h : Fo.err l next = 4) : ask l next s = 4 := by unfold ask; rw [if_neg (by rw [h]; decide)]
theorem ask_right {l : List Ent} {next : Int} {s : ByteArray} (h : Fo.err l next = 0) : ask l next s = Nm.err s := by unfold ask; rw [if_pos h]
end Fo
theorem frefuse_any (v : Value) (l : List Ent) (next : Int) (s : ByteArray) (w : World) (hv : AtW EE w v l) (hs : ∀ x ∈ l, x.1.size ≤ maxLen) (hn : s.size ≤ maxLen) :
    Calls Tryz.prog 133 #[VD v next, .string s] w fun e w' => e = .returned (.int .i64 (Fo.ask l next s)) ∧ Below w.heap.size w w' := by
  have HB0 : Hid (Below w.heap.size w (w.alloc (BD v next))) := (Below.refl _ w).alloc (Nat.le_refl _) _
  have HV : Hid (AtW EE (w.alloc (BD v next)) v l) := hv.up HB0.out
  have HS : Hid (∀ x ∈ l, x.1.size ≤ maxLen) := hs
  have HN : Hid (s.size ≤ maxLen) := hn
  clear hv hs hn
  rcases Fo.err_or l next with ⟨he, hr⟩ | ⟨he, hr⟩
  · have HE : Hid (Fo.err l next = 0) := he
    have HA : Hid (Fo.ask l next s = Nm.err s) := Fo.ask_right he
    rw [HA.out]
    clear he hr
    go_enter Tryz.func133, Tryz.ntmps133
    go_wp2_with fail
    refine (fcheck_any v l next _ HV.out HS.out).mono ?_
    rintro e w1 ⟨rfl, hb⟩
    rw [HE.out]
    have HB1 : Hid (Below w.heap.size w w1) := HB0.out.trans (hb.mono (by simp))
    have hsz : w.heap.size ≤ w1.heap.size := HB1.out.size
    clear hb
    go_wp2_with fail
    refine (name_any s _ HN.out).mono ?_
    rintro e w2 ⟨rfl, hb⟩
    go_wp2
    go_ret
    exact ⟨rfl, HB1.out.trans (hb.mono hsz)⟩
  · have HE : Hid (Fo.err l next = 4) := he
    have HA : Hid (Fo.ask l next s = 4) := Fo.ask_wrong he
    rw [HA.out]
    clear he hr
    go_enter Tryz.func133, Tryz.ntmps133
    go_wp2_with fail
    refine (fcheck_any v l next _ HV.out HS.out).mono ?_
    rintro e w1 ⟨rfl, hb⟩
    rw [HE.out]
    go_wp2
    go_ret
    exact ⟨rfl, HB0.out.trans (hb.mono (by simp))⟩
abbrev VF (f b : Nat) : Value := .func (Fn.func f) #[] #[.pointer (some ⟨b, 0, none⟩)]
theorem named_any (s : ByteArray) (w : World) : Calls Tryz.prog 135 #[.string s] w fun e w' => ∃ b, e = .returned (VF 140 b) ∧ b < w'.heap.size ∧ w'.cell? ⟨b, 0, none⟩ = some (.string s) ∧ Below w.heap.size w w' := by
  go_enter Tryz.func135, Tryz.ntmps135
  go_wp2
  go_ret
  have hh := heap_alloc_new w (.cells #[.string s] 9)
  exact ⟨_, rfl, by simp, by simp only [World.cell?, hh]; rfl, (Below.refl _ w).alloc (Nat.le_refl _) _⟩
abbrev VE (x : Ent) : Value := .agg #[.string x.1, .int .i64 x.2.1, .int .i64 x.2.2.1, .int .i64 x.2.2.2]
theorem named1_any (x : Ent) (s : ByteArray) (b : Nat) (w : World) (hb : b < w.heap.size) (hc : w.cell? ⟨b, 0, none⟩ = some (.string s)) :
    Calls Tryz.prog 140 #[VE x, .pointer (some ⟨b, 0, none⟩)] w fun e w' => e = .returned (.bool (Fo.called s x)) ∧ w' = w.alloc (BE x) := by
  obtain ⟨xs, xc, xo, xg⟩ := x
  have hc2 := (cell_older hb (BE (xs, xc, xo, xg)) 0).trans hc
  go_enter Tryz.func140, Tryz.ntmps140
  go_wp2
  go_ret
  exact ⟨rfl, rfl⟩
set_option maxHeartbeats 1000000 in
theorem index_named (v : Value) (l : List Ent) (s : ByteArray) (b : Nat) (w : World) (hv : AtW EE w v l) (hb : b < w.heap.size) (hc : w.cell? ⟨b, 0, none⟩ = some (.string s)) :
    Calls Tryz.prog 134 #[v, VF 140 b] w fun e w' => e = .returned (.int .i64 (Fo.at' (Fo.called s) l)) ∧ Below w.heap.size w w' := by
  obtain ⟨ao, cap, rfl, hm, hx⟩ := hv.open
  clear hv
  unfold maxLen at hm
  obtain ⟨n, hn⟩ : ∃ n, l.length = n := ⟨_, rfl⟩
  rw [hn] at hm ⊢
  have HN : Hid (l.length = n) := hn
  have HX : Hid (∀ i x, l[i]? = some x → ∃ b off, ao = some ⟨b, off, none⟩ ∧ True ∧ b < w.heap.size ∧ ∀ k u, (EE.cells x)[k]? = some u → w.cell? ⟨b, off + (i * EE.sz + k), none⟩ = some u) := hx
  have HC : Hid (w.cell? ⟨b, 0, none⟩ = some (.string s)) := hc
  clear hn hx hc
  go_enter Tryz.func134, Tryz.ntmps134
  go_wp2
  go_loopw [8] (fun i wr => ∃ k : Nat, k ≤ n ∧ i = .int .i64 k ∧ Hid (∀ j y, j < k → l[j]? = some y → Fo.called s y = false) ∧ Hid (Below w.heap.size w wr)) (fun i _ => n - (intOf i).toNat)
  case atStart => exact ⟨0, Nat.zero_le _, rfl, fun j y hj => by omega, Below.refl _ _⟩
  case round =>
    obtain ⟨k, hk, rfl, HP, HB⟩ := hrel
    by_cases hlt : k < n
    · obtain ⟨x, hxk⟩ : ∃ x, l[k]? = some x := ⟨_, List.getElem?_eq_getElem (by rw [HN.out]; exact hlt)⟩
      have HXK : Hid (l[k]? = some x) := hxk
      obtain ⟨b2, off, rfl, -, hB, hcx⟩ := HX.out k x hxk
      have a := fun j u hj => (HB.out.cell (p := ⟨b2, off + (k * EE.sz + j), none⟩) hB).trans (hcx j u hj)
      have c0 : wr.cell? ⟨b2, off + k * 4, none⟩ = some (.string x.1) := a 0 _ rfl
      have c1 : wr.cell? ⟨b2, off + k * 4 + 1, none⟩ = some (.int .i64 x.2.1) := a 1 _ rfl
      have c2 : wr.cell? ⟨b2, off + k * 4 + 2, none⟩ = some (.int .i64 x.2.2.1) := a 2 _ rfl
      have c3 : wr.cell? ⟨b2, off + k * 4 + 3, none⟩ = some (.int .i64 x.2.2.2) := a 3 _ rfl
      have hsz := HB.out.size
      have HC2 : Hid (wr.cell? ⟨b, 0, none⟩ = some (.string s)) := (HB.out.cell (p := ⟨b, 0, none⟩) hb).trans HC.out
      clear a hcx hxk
      have hlt' : (k : Int) < (n : Int) := by omega
      cases hp : Fo.called s x with
      | true =>
        have HT : Hid (Fo.called s x = true) := hp
        have HA : Hid (Fo.at' (Fo.called s) l = k) := Fo.at_hit HXK.out hp HP.out
        clear hp
        go_wp2_with fail
        refine (named1_any x s b _ (by omega) HC2.out).mono ?_
        rintro e w1 ⟨rfl, rfl⟩
        rw [HT.out]
        go_wp2
        go_ret
        rw [HA.out]
        exact ⟨rfl, HB.out.alloc hsz _⟩
      | false =>
        have HT : Hid (Fo.called s x = false) := hp
        have HP2 : Hid (∀ j y, j < k + 1 → l[j]? = some y → Fo.called s y = false) := fun j y hj hy => by
          by_cases e : j = k
          · subst e
            rw [HXK.out] at hy
            cases hy
            exact hp
          · exact HP.out j y (by omega) hy
        clear hp
        go_wp2_with fail
        refine (named1_any x s b _ (by omega) HC2.out).mono ?_
        rintro e w1 ⟨rfl, rfl⟩
        rw [HT.out]
        go_wp2
        go_roundw
        case rel => exact ⟨k + 1, by omega, by go_num, HP2, HB.out.alloc hsz _⟩
        case measure => simp [intOf]; omega
    · obtain rfl : k = n := by omega
      have HA : Hid (Fo.at' (Fo.called s) l = -1) := Fo.at_miss fun j y hj => HP.out j y (by rw [← HN.out]; exact hj)
      go_wp2
      go_ret
      rw [HA.out]
      exact ⟨rfl, HB.out⟩
end Go.Proofs.YtacghcoikekfeaaGreat
