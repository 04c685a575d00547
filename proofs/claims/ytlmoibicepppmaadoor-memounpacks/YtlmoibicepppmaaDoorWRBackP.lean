/-
  Plain facts (no program): what the document's Unpack makes of fields, and that it is the memo that was packed.
-/
import Derived.Test.YtlmoibicepppmaaDoorWBackP
namespace Go.Proofs.YtlmoibicepppmaaDoor
open Me
set_option maxRecDepth 100000
namespace Me
def nm (v : ByteArray) (a z : Nat) : Int := if v.size < a + z then 0 else Pl.numVal (v.extract a (a + z))
theorem nm_eq (v : ByteArray) (a z : Nat) : nm v a z = if v.size < a + z then 0 else Pl.numVal (v.extract a (a + z)) := by unfold nm; rfl
def itR (v : ByteArray) : It := ⟨nm v 0 6, nm v 6 6, nm v 12 6, v.extract 18 v.size⟩
def rStep (m : Mm) (t : Int) (s : ByteArray) : Option Mm :=
  if t = 1 then some { m with k := nm s 0 1 }
  else if t = 2 then some { m with v := nm s 0 6 }
  else if t = 3 then some { m with n := nm s 0 6 }
  else if t = 4 then some { m with o := nm s 0 6 }
  else if t = 5 then some { m with c := nm s 0 6 }
  else if t = 6 then some { m with b := nm s 0 6 }
  else if t = 7 then some { m with l := nm s 0 6 }
  else if t = 8 then some { m with cl := nm s 0 6 }
  else if t = 9 then some { m with lives := m.lives ++ [nm s 0 6] }
  else if t = 10 then (if s.size < 18 then none else some { m with items := m.items ++ [itR s] })
  else if t = 11 then some { m with mo := nm s 0 6, ms := nm s 6 2, mm := nm s 8 4 }
  else if t = 12 then some { m with nu := nm s 0 2 }
  else if t = 13 then some { m with d := s }
  else some m
def rFold : Mm → List (Int × ByteArray) → Option Mm
  | m, [] => some m
  | m, x :: l => (rStep m x.1 x.2).bind fun m' => rFold m' l
theorem ext_all {s : ByteArray} {n : Nat} (h : s.size = n) : s.extract 0 n = s := by subst h; exact ByteArray.extract_zero_size
theorem nm_num {n : Int} {z : Nat} (h : Pl.numVal (Pl.numOut n z) = n ∧ (Pl.numOut n z).size = z) : nm (Pl.numOut n z) 0 z = n := by
  have e : (Pl.numOut n z).extract 0 z = Pl.numOut n z := ext_all h.2
  rw [nm_eq, Nat.zero_add, h.2, if_neg (by omega), e, h.1]
theorem ext_skip (a b : ByteArray) (n i j : Nat) (h : a.size = n) : (a ++ b).extract (n + i) (n + j) = b.extract i j := by
  subst h
  rw [Pl.extract_txt, Pl.extract_txt]
  have : (a ++ b).data.toList = a.data.toList ++ b.data.toList := by simp [ByteArray.data_append]
  have hl : a.size = a.data.toList.length := by simp
  rw [this, hl, List.drop_length_add_append]
  congr 2
  omega
theorem itR_itB {x : It} (h : okIt x = true) : itR (itB x) = x ∧ ¬ (itB x).size < 18 := by
  obtain ⟨v, c, r, b⟩ := x
  have h18 := (itOf_itB h).2
  simp only [okIt, decide_eq_true_eq] at h
  obtain ⟨v1, v2⟩ := num_back (n := v) (z := 6) h.1.1 (by decide) (by decide) (by omega)
  obtain ⟨c1, c2⟩ := num_back (n := c) (z := 6) h.2.1.1 (by decide) (by decide) (by omega)
  obtain ⟨r1, r2⟩ := num_back (n := r) (z := 6) (by omega) (by decide) (by decide) (by omega)
  have e6 : ((6 : Nat) : Int) = 6 := rfl
  rw [e6] at v1 v2 c1 c2 r1 r2
  refine ⟨?_, by omega⟩
  have e : itB ⟨v, c, r, b⟩ = Pl.numOut v 6 ++ (Pl.numOut c 6 ++ (Pl.numOut r 6 ++ b)) := by unfold itB; simp only [app_assoc]
  rw [e] at h18 ⊢
  have hs : (Pl.numOut v 6 ++ (Pl.numOut c 6 ++ (Pl.numOut r 6 ++ b))).size = 6 + (6 + (6 + b.size)) := by simp only [ByteArray.size_append]; omega
  unfold itR
  rw [nm_eq, nm_eq, nm_eq, if_neg (by omega), if_neg (by omega), if_neg (by omega)]
  have t0 : (Pl.numOut v 6 ++ (Pl.numOut c 6 ++ (Pl.numOut r 6 ++ b))).extract 0 (0 + 6) = Pl.numOut v 6 := extract_left _ _ _ v2
  have t1 : (Pl.numOut v 6 ++ (Pl.numOut c 6 ++ (Pl.numOut r 6 ++ b))).extract 6 (6 + 6) = Pl.numOut c 6 := (ext_skip _ _ 6 0 6 v2).trans (extract_left _ _ _ c2)
  have t2 : (Pl.numOut v 6 ++ (Pl.numOut c 6 ++ (Pl.numOut r 6 ++ b))).extract 12 (12 + 6) = Pl.numOut r 6 := (ext_skip _ _ 6 6 12 v2).trans ((ext_skip _ _ 6 0 6 c2).trans (extract_left _ _ _ r2))
  have t3 : (Pl.numOut v 6 ++ (Pl.numOut c 6 ++ (Pl.numOut r 6 ++ b))).extract 18 (6 + (6 + (6 + b.size))) = b := (ext_skip _ _ 6 12 (6 + (6 + b.size)) v2).trans ((ext_skip _ _ 6 6 (6 + b.size) c2).trans ((ext_skip _ _ 6 0 b.size r2).trans (by rw [ByteArray.extract_zero_size])))
  rw [t0, t1, t2, hs, t3, v1, c1, r1]
theorem man_nm {o z m : Int} (h : manR o z m = true) : nm (manBy o z m) 0 6 = o ∧ nm (manBy o z m) 6 2 = z ∧ nm (manBy o z m) 8 4 = m := by
  simp only [manR, decide_eq_true_eq] at h
  obtain ⟨a1, a2⟩ := num_back (n := o) (z := 6) h.1.1 (by decide) (by decide) (by omega)
  obtain ⟨b1, b2⟩ := num_back (n := z) (z := 2) (by omega) (by decide) (by decide) (by omega)
  obtain ⟨c1, c2⟩ := num_back (n := m) (z := 4) (by omega) (by decide) (by decide) (by omega)
  have e6 : ((6 : Nat) : Int) = 6 := rfl
  have e2 : ((2 : Nat) : Int) = 2 := rfl
  have e4 : ((4 : Nat) : Int) = 4 := rfl
  rw [e6] at a1 a2
  rw [e2] at b1 b2
  rw [e4] at c1 c2
  have e : manBy o z m = Pl.numOut o 6 ++ (Pl.numOut z 2 ++ Pl.numOut m 4) := by unfold manBy; simp only [app_assoc]
  have hs : (Pl.numOut o 6 ++ (Pl.numOut z 2 ++ Pl.numOut m 4)).size = 12 := by simp only [ByteArray.size_append]; omega
  rw [e, nm_eq, nm_eq, nm_eq, if_neg (by omega), if_neg (by omega), if_neg (by omega)]
  have t0 : (Pl.numOut o 6 ++ (Pl.numOut z 2 ++ Pl.numOut m 4)).extract 0 (0 + 6) = Pl.numOut o 6 := extract_left _ _ _ a2
  have t1 : (Pl.numOut o 6 ++ (Pl.numOut z 2 ++ Pl.numOut m 4)).extract 6 (6 + 2) = Pl.numOut z 2 := (ext_skip _ _ 6 0 2 a2).trans (extract_left _ _ _ b2)
  have t2 : (Pl.numOut o 6 ++ (Pl.numOut z 2 ++ Pl.numOut m 4)).extract 8 (8 + 4) = Pl.numOut m 4 := (ext_skip _ _ 6 2 6 a2).trans ((ext_skip _ _ 2 0 4 b2).trans (ext_all c2))
  rw [t0, t1, t2]
  exact ⟨a1, b1, c1⟩
theorem rFold_cons (m : Mm) (t : Int) (s : ByteArray) (l : List (Int × ByteArray)) : rFold m ((t, s) :: l) = (rStep m t s).bind fun m' => rFold m' l := rfl
theorem rFold_lives {l : List Int} {r : List (Int × ByteArray)} (hl : ∀ x ∈ l, bigB x = true) : ∀ M : Mm, rFold M (lifeF l ++ r) = rFold { M with lives := M.lives ++ l } r := by
  induction l with
  | nil => intro M; simp [lifeF]
  | cons x l ih =>
    intro M
    show rFold M ((9, Pl.numOut x 6) :: (lifeF l ++ r)) = _
    have e : rStep M 9 (Pl.numOut x 6) = some { M with lives := M.lives ++ [x] } := by
      have := nm_num (z := 6) (big_num (hl x (by simp)))
      have e6 : ((6 : Nat) : Int) = 6 := rfl
      rw [e6] at this
      simp [rStep, this]
    rw [rFold_cons, e, Option.bind_some, ih fun y hy => hl y (by simp [hy])]
    simp
theorem rFold_items {l : List It} {r : List (Int × ByteArray)} (hl : ∀ x ∈ l, okIt x = true) : ∀ M : Mm, rFold M (itF l ++ r) = rFold { M with items := M.items ++ l } r := by
  induction l with
  | nil => intro M; simp [itF]
  | cons x l ih =>
    intro M
    show rFold M ((10, itB x) :: (itF l ++ r)) = _
    have e : rStep M 10 (itB x) = some { M with items := M.items ++ [x] } := by
      obtain ⟨h1, h2⟩ := itR_itB (hl x (by simp))
      simp [rStep, h1, h2]
    rw [rFold_cons, e, Option.bind_some, ih fun y hy => hl y (by simp [hy])]
    simp
theorem rFold_opt {M M' : Mm} {b : Bool} {t : Int} {s : ByteArray} {r : List (Int × ByteArray)} (h1 : b = true → rStep M t s = some M') (h0 : b = false → M = M') : rFold M (opt b (t, s) ++ r) = rFold M' r := by
  cases b with
  | true =>
    show rFold M ((t, s) :: r) = _
    rw [rFold_cons, h1 rfl, Option.bind_some]
  | false =>
    show rFold M r = _
    rw [h0 rfl]
theorem rFold_fields {m : Mm} (h : right m = true) : rFold zero (fields m) = some m := by
  obtain ⟨hk, hb, hl, hil, hit, hm, hn, hd⟩ := right_iff.1 h
  have hb' : ∀ x ∈ bigs m, bigB x = true := List.all_eq_true.1 hb
  have e6 : ((6 : Nat) : Int) = 6 := rfl
  have big : ∀ x ∈ bigs m, nm (Pl.numOut x 6) 0 6 = x := fun x hx => nm_num (z := 6) (big_num (hb' x hx))
  have bv := big m.v (by simp [bigs])
  have bn := big m.n (by simp [bigs])
  have bo := big m.o (by simp [bigs])
  have bc := big m.c (by simp [bigs])
  have bb := big m.b (by simp [bigs])
  have bl := big m.l (by simp [bigs])
  have bcl := big m.cl (by simp [bigs])
  have bk : nm (Pl.numOut m.k 1) 0 1 = m.k := by
    simp only [kB, decide_eq_true_eq] at hk
    exact nm_num (z := 1) (num_back (z := 1) (by omega) (by decide) (by decide) (by omega))
  have bnu : nm (Pl.numOut m.nu 2) 0 2 = m.nu := by
    simp only [nB, decide_eq_true_eq] at hn
    exact nm_num (z := 2) (num_back (z := 2) (by omega) (by decide) (by decide) (by omega))
  have hlv : ∀ x ∈ m.lives, bigB x = true := by
    unfold livB at hl
    simp only [Bool.or_eq_true, Bool.and_eq_true, decide_eq_true_eq, List.all_eq_true] at hl
    rcases hl with hl | hl
    · intro x hx; rw [List.eq_nil_of_length_eq_zero hl] at hx; cases hx
    · exact hl.2.2
  have hit' : ∀ x ∈ m.items, okIt x = true := List.all_eq_true.1 hit
  have z0 : ∀ x : Int, (x != 0) = false → 0 = x := fun x hx => by simp at hx; exact hx.symm
  rw [fields_eq hk]
  rw [rFold_opt (M' := ⟨m.k, 0, 0, 0, 0, 0, 0, 0, [], [], 0, 0, 0, 0, ⟨#[]⟩⟩) (fun _ => by simp [rStep, bk, zero]) (fun hx => by rw [← z0 _ hx]; rfl)]
  rw [rFold_opt (M' := ⟨m.k, m.v, 0, 0, 0, 0, 0, 0, [], [], 0, 0, 0, 0, ⟨#[]⟩⟩) (fun _ => by simp [rStep, bv]) (fun hx => by rw [← z0 _ hx])]
  rw [rFold_opt (M' := ⟨m.k, m.v, m.n, 0, 0, 0, 0, 0, [], [], 0, 0, 0, 0, ⟨#[]⟩⟩) (fun _ => by simp [rStep, bn]) (fun hx => by rw [← z0 _ hx])]
  rw [rFold_opt (M' := ⟨m.k, m.v, m.n, m.o, 0, 0, 0, 0, [], [], 0, 0, 0, 0, ⟨#[]⟩⟩) (fun _ => by simp [rStep, bo]) (fun hx => by rw [← z0 _ hx])]
  rw [rFold_opt (M' := ⟨m.k, m.v, m.n, m.o, m.c, 0, 0, 0, [], [], 0, 0, 0, 0, ⟨#[]⟩⟩) (fun _ => by simp [rStep, bc]) (fun hx => by rw [← z0 _ hx])]
  rw [rFold_opt (M' := ⟨m.k, m.v, m.n, m.o, m.c, m.b, 0, 0, [], [], 0, 0, 0, 0, ⟨#[]⟩⟩) (fun _ => by simp [rStep, bb]) (fun hx => by rw [← z0 _ hx])]
  rw [rFold_opt (M' := ⟨m.k, m.v, m.n, m.o, m.c, m.b, m.l, 0, [], [], 0, 0, 0, 0, ⟨#[]⟩⟩) (fun _ => by simp [rStep, bl]) (fun hx => by rw [← z0 _ hx])]
  rw [rFold_opt (M' := ⟨m.k, m.v, m.n, m.o, m.c, m.b, m.l, m.cl, [], [], 0, 0, 0, 0, ⟨#[]⟩⟩) (fun _ => by simp [rStep, bcl]) (fun hx => by rw [← z0 _ hx])]
  rw [rFold_lives hlv, rFold_items hit']
  simp only [List.nil_append]
  rw [rFold_opt (M' := ⟨m.k, m.v, m.n, m.o, m.c, m.b, m.l, m.cl, m.lives, m.items, m.mo, m.ms, m.mm, 0, ⟨#[]⟩⟩) (fun hx => by
    have hR : manR m.mo m.ms m.mm = true := by
      unfold manB at hm
      simp only [Bool.not_eq_true'] at hx
      rw [hx] at hm
      simpa using hm
    obtain ⟨a, b, c⟩ := man_nm hR
    simp [rStep, a, b, c]) (fun hx => by
    simp only [Bool.not_eq_false', manZ, Bool.and_eq_true, beq_iff_eq] at hx
    obtain ⟨x1, x2, x3⟩ := hx
    rw [x1, x2, x3])]
  rw [rFold_opt (M' := ⟨m.k, m.v, m.n, m.o, m.c, m.b, m.l, m.cl, m.lives, m.items, m.mo, m.ms, m.mm, m.nu, ⟨#[]⟩⟩) (fun _ => by simp [rStep, bnu]) (fun hx => by rw [← z0 _ hx])]
  rw [rFold_opt (M' := m) (fun _ => by simp [rStep]) (fun hx => by
    have : m.d.size = 0 := by
      by_cases h0 : m.d.size = 0
      · exact h0
      · rw [snz_iff.2 h0] at hx; cases hx
    rw [← empty_of this])]
  rfl
/-- What the document's Unpack answers is what the code's does. -/
theorem ref_none {s : ByteArray} (hs : s.size ≤ 60000) (h : pWhole s = none) : unpM s = zero ∧ unpE s = 4 := by
  unfold unpM unpE
  rw [if_neg (by omega), if_neg (by omega), h]
  exact ⟨rfl, rfl⟩
theorem whole_fold {s : ByteArray} {m : Mm} (h : pWhole s = some m) : rFold zero (Pl.unpOut (Po.Pl.ungOut s).data.toList) = some m := by
  unfold pWhole at h
  split at h
  · obtain ⟨hr, hf⟩ := pMemo_inv h
    rw [← hf, rFold_fields hr]
  · cases h
theorem ref_fold_none {s : ByteArray} (hs : s.size ≤ 60000) (h : rFold zero (Pl.unpOut (Po.Pl.ungOut s).data.toList) = none) : unpM s = zero ∧ unpE s = 4 := by
  refine ref_none hs ?_
  cases hp : pWhole s with
  | none => rfl
  | some m => rw [whole_fold hp] at h; cases h
theorem ref_fold_no {s : ByteArray} {m : Mm} (hs : s.size ≤ 60000) (h : rFold zero (Pl.unpOut (Po.Pl.ungOut s).data.toList) = some m) (hp : ¬ (packErr m = 0 ∧ packOut m = s)) : unpM s = zero ∧ unpE s = 4 := by
  refine ref_none hs ?_
  cases hw : pWhole s with
  | none => rfl
  | some m' =>
    rw [whole_fold hw] at h
    obtain rfl := Option.some.inj h
    obtain ⟨hr, hk⟩ := whole_inv hw
    refine absurd ⟨?_, ?_⟩ hp
    · unfold packErr; rw [if_pos hr, if_neg (by rw [hk]; omega)]
    · unfold packOut; rw [if_pos hr, if_neg (by rw [hk]; omega), hk]
theorem ref_fold_yes {s : ByteArray} {m : Mm} (hp : packErr m = 0 ∧ packOut m = s) : unpM s = m ∧ unpE s = 0 := by
  obtain ⟨h1, h2⟩ := hp
  unfold packErr at h1
  split at h1
  · rename_i hr
    split at h1
    · cases h1
    · rename_i hl
      unfold packOut at h2
      rw [if_pos hr, if_neg hl] at h2
      have := unp_packed hr (by omega)
      rwa [h2] at this
  · cases h1
end Me
end Go.Proofs.YtlmoibicepppmaaDoor
