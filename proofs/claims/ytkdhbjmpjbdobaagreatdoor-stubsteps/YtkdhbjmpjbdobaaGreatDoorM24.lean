/-
  The texts WRBackP, RefUnpack, WPc, WRUe, as one.
-/
import Derived.BigQuiet
import Derived.Deep.QuietTactic
import Derived.OrdersHeld
import Derived.Deep.RegionLaw
import Derived.Test.YtkdhbjmpjbdobaaGreatDoorM23
/- WRBackP -/
namespace Go.Proofs.YtkdhbjmpjbdobaaGreatDoor
open Me
set_option maxRecDepth 100000
namespace Me
def nm (v : ByteArray) (a z : Nat) : Int := if v.size < a + z then 0 else Pl.numVal (v.extract a (a + z))
theorem nm_eq (v : ByteArray) (a z : Nat) : nm v a z = if v.size < a + z then 0 else Pl.numVal (v.extract a (a + z)) := by unfold nm; rfl
def itR (v : ByteArray) : It := ⟨nm v 0 6, nm v 6 6, nm v 12 6, v.extract 18 v.size⟩
def rStep (m : Mm) (t : Int) (s : ByteArray) : Option Mm :=
  if t = 1 then some { m with k := nm s 0 1 }
  else if t = 2 then some { m with v := nm s 0 6 }
  else if t = 3 then some { m with n := nm s 0 6 }
  else if t = 4 then some { m with o := nm s 0 6 }
  else if t = 5 then some { m with c := nm s 0 6 }
  else if t = 6 then some { m with b := nm s 0 6 }
  else if t = 7 then some { m with l := nm s 0 6 }
  else if t = 8 then some { m with cl := nm s 0 6 }
  else if t = 9 then some { m with lives := m.lives ++ [nm s 0 6] }
  else if t = 10 then (if s.size < 18 then none else some { m with items := m.items ++ [itR s] })
  else if t = 11 then some { m with mo := nm s 0 6, ms := nm s 6 2, mm := nm s 8 4 }
  else if t = 12 then some { m with nu := nm s 0 2 }
  else if t = 13 then some { m with d := s }
  else some m
def rFold : Mm → List (Int × ByteArray) → Option Mm
  | m, [] => some m
  | m, x :: l => (rStep m x.1 x.2).bind fun m' => rFold m' l
theorem ext_all {s : ByteArray} {n : Nat} (h : s.size = n) : s.extract 0 n = s := by subst h; exact ByteArray.extract_zero_size
theorem nm_num {n : Int} {z : Nat} (h : Pl.numVal (Pl.numOut n z) = n ∧ (Pl.numOut n z).size = z) : nm (Pl.numOut n z) 0 z = n := by
  have e : (Pl.numOut n z).extract 0 z = Pl.numOut n z := ext_all h.2
  rw [nm_eq, Nat.zero_add, h.2, if_neg (by omega), e, h.1]
theorem ext_skip (a b : ByteArray) (n i j : Nat) (h : a.size = n) : (a ++ b).extract (n + i) (n + j) = b.extract i j := by
  subst h
  rw [Pl.extract_txt, Pl.extract_txt]
  have : (a ++ b).data.toList = a.data.toList ++ b.data.toList := by simp [ByteArray.data_append]
  have hl : a.size = a.data.toList.length := by simp
  rw [this, hl, List.drop_length_add_append]
  congr 2
  omega
theorem itR_itB {x : It} (h : okIt x = true) : itR (itB x) = x ∧ ¬ (itB x).size < 18 := by
  obtain ⟨v, c, r, b⟩ := x
  have h18 := (itOf_itB h).2
  simp only [okIt, decide_eq_true_eq] at h
  obtain ⟨v1, v2⟩ := num_back (n := v) (z := 6) h.1.1 (by decide) (by decide) (by omega)
  obtain ⟨c1, c2⟩ := num_back (n := c) (z := 6) h.2.1.1 (by decide) (by decide) (by omega)
  obtain ⟨r1, r2⟩ := num_back (n := r) (z := 6) (by omega) (by decide) (by decide) (by omega)
  have e6 : ((6 : Nat) : Int) = 6 := rfl
  rw [e6] at v1 v2 c1 c2 r1 r2
  refine ⟨?_, by omega⟩
  have e : itB ⟨v, c, r, b⟩ = Pl.numOut v 6 ++ (Pl.numOut c 6 ++ (Pl.numOut r 6 ++ b)) := by unfold itB; simp only [app_assoc]
  rw [e] at h18 ⊢
  have hs : (Pl.numOut v 6 ++ (Pl.numOut c 6 ++ (Pl.numOut r 6 ++ b))).size = 6 + (6 + (6 + b.size)) := by simp only [ByteArray.size_append]; omega
  unfold itR
  rw [nm_eq, nm_eq, nm_eq, if_neg (by omega), if_neg (by omega), if_neg (by omega)]
  have t0 : (Pl.numOut v 6 ++ (Pl.numOut c 6 ++ (Pl.numOut r 6 ++ b))).extract 0 (0 + 6) = Pl.numOut v 6 := extract_left _ _ _ v2
  have t1 : (Pl.numOut v 6 ++ (Pl.numOut c 6 ++ (Pl.numOut r 6 ++ b))).extract 6 (6 + 6) = Pl.numOut c 6 := (ext_skip _ _ 6 0 6 v2).trans (extract_left _ _ _ c2)
  have t2 : (Pl.numOut v 6 ++ (Pl.numOut c 6 ++ (Pl.numOut r 6 ++ b))).extract 12 (12 + 6) = Pl.numOut r 6 := (ext_skip _ _ 6 6 12 v2).trans ((ext_skip _ _ 6 0 6 c2).trans (extract_left _ _ _ r2))
  have t3 : (Pl.numOut v 6 ++ (Pl.numOut c 6 ++ (Pl.numOut r 6 ++ b))).extract 18 (6 + (6 + (6 + b.size))) = b := (ext_skip _ _ 6 12 (6 + (6 + b.size)) v2).trans ((ext_skip _ _ 6 6 (6 + b.size) c2).trans ((ext_skip _ _ 6 0 b.size r2).trans (by rw [ByteArray.extract_zero_size])))
  rw [t0, t1, t2, hs, t3, v1, c1, r1]
theorem man_nm {o z m : Int} (h : manR o z m = true) : nm (manBy o z m) 0 6 = o ∧ nm (manBy o z m) 6 2 = z ∧ nm (manBy o z m) 8 4 = m := by
  simp only [manR, decide_eq_true_eq] at h
  obtain ⟨a1, a2⟩ := num_back (n := o) (z := 6) h.1.1 (by decide) (by decide) (by omega)
  obtain ⟨b1, b2⟩ := num_back (n := z) (z := 2) (by omega) (by decide) (by decide) (by omega)
  obtain ⟨c1, c2⟩ := num_back (n := m) (z := 4) (by omega) (by decide) (by decide) (by omega)
  have e6 : ((6 : Nat) : Int) = 6 := rfl
  have e2 : ((2 : Nat) : Int) = 2 := rfl
  have e4 : ((4 : Nat) : Int) = 4 := rfl
  rw [e6] at a1 a2
  rw [e2] at b1 b2
  rw [e4] at c1 c2
  have e : manBy o z m = Pl.numOut o 6 ++ (Pl.numOut z 2 ++ Pl.numOut m 4) := by unfold manBy; simp only [app_assoc]
  have hs : (Pl.numOut o 6 ++ (Pl.numOut z 2 ++ Pl.numOut m 4)).size = 12 := by simp only [ByteArray.size_append]; omega
  rw [e, nm_eq, nm_eq, nm_eq, if_neg (by omega), if_neg (by omega), if_neg (by omega)]
  have t0 : (Pl.numOut o 6 ++ (Pl.numOut z 2 ++ Pl.numOut m 4)).extract 0 (0 + 6) = Pl.numOut o 6 := extract_left _ _ _ a2
  have t1 : (Pl.numOut o 6 ++ (Pl.numOut z 2 ++ Pl.numOut m 4)).extract 6 (6 + 2) = Pl.numOut z 2 := (ext_skip _ _ 6 0 2 a2).trans (extract_left _ _ _ b2)
  have t2 : (Pl.numOut o 6 ++ (Pl.numOut z 2 ++ Pl.numOut m 4)).extract 8 (8 + 4) = Pl.numOut m 4 := (ext_skip _ _ 6 2 6 a2).trans ((ext_skip _ _ 2 0 4 b2).trans (ext_all c2))
  rw [t0, t1, t2]
  exact ⟨a1, b1, c1⟩
theorem rFold_cons (m : Mm) (t : Int) (s : ByteArray) (l : List (Int × ByteArray)) : rFold m ((t, s) :: l) = (rStep m t s).bind fun m' => rFold m' l := rfl
theorem rFold_lives {l : List Int} {r : List (Int × ByteArray)} (hl : ∀ x ∈ l, bigB x = true) : ∀ M : Mm, rFold M (lifeF l ++ r) = rFold { M with lives := M.lives ++ l } r := by
  induction l with
  | nil => intro M; simp [lifeF]
  | cons x l ih =>
    intro M
    show rFold M ((9, Pl.numOut x 6) :: (lifeF l ++ r)) = _
    have e : rStep M 9 (Pl.numOut x 6) = some { M with lives := M.lives ++ [x] } := by
      have := nm_num (z := 6) (big_num (hl x (by simp)))
      have e6 : ((6 : Nat) : Int) = 6 := rfl
      rw [e6] at this
      simp [rStep, this]
    rw [rFold_cons, e, Option.bind_some, ih fun y hy => hl y (by simp [hy])]
    simp
theorem rFold_items {l : List It} {r : List (Int × ByteArray)} (hl : ∀ x ∈ l, okIt x = true) : ∀ M : Mm, rFold M (itF l ++ r) = rFold { M with items := M.items ++ l } r := by
  induction l with
  | nil => intro M; simp [itF]
  | cons x l ih =>
    intro M
    show rFold M ((10, itB x) :: (itF l ++ r)) = _
    have e : rStep M 10 (itB x) = some { M with items := M.items ++ [x] } := by
      obtain ⟨h1, h2⟩ := itR_itB (hl x (by simp))
      simp [rStep, h1, h2]
    rw [rFold_cons, e, Option.bind_some, ih fun y hy => hl y (by simp [hy])]
    simp
theorem rFold_opt {M M' : Mm} {b : Bool} {t : Int} {s : ByteArray} {r : List (Int × ByteArray)} (h1 : b = true → rStep M t s = some M') (h0 : b = false → M = M') : rFold M (opt b (t, s) ++ r) = rFold M' r := by
  cases b with
  | true =>
    show rFold M ((t, s) :: r) = _
    rw [rFold_cons, h1 rfl, Option.bind_some]
  | false =>
    show rFold M r = _
    rw [h0 rfl]
theorem rFold_fields {m : Mm} (h : right m = true) : rFold zero (fields m) = some m := by
  obtain ⟨hk, hb, hl, hil, hit, hm, hn, hd⟩ := right_iff.1 h
  have hb' : ∀ x ∈ bigs m, bigB x = true := List.all_eq_true.1 hb
  have e6 : ((6 : Nat) : Int) = 6 := rfl
  have big : ∀ x ∈ bigs m, nm (Pl.numOut x 6) 0 6 = x := fun x hx => nm_num (z := 6) (big_num (hb' x hx))
  have bv := big m.v (by simp [bigs])
  have bn := big m.n (by simp [bigs])
  have bo := big m.o (by simp [bigs])
  have bc := big m.c (by simp [bigs])
  have bb := big m.b (by simp [bigs])
  have bl := big m.l (by simp [bigs])
  have bcl := big m.cl (by simp [bigs])
  have bk : nm (Pl.numOut m.k 1) 0 1 = m.k := by
    simp only [kB, decide_eq_true_eq] at hk
    exact nm_num (z := 1) (num_back (z := 1) (by omega) (by decide) (by decide) (by omega))
  have bnu : nm (Pl.numOut m.nu 2) 0 2 = m.nu := by
    simp only [nB, decide_eq_true_eq] at hn
    exact nm_num (z := 2) (num_back (z := 2) (by omega) (by decide) (by decide) (by omega))
  have hlv : ∀ x ∈ m.lives, bigB x = true := by
    unfold livB at hl
    simp only [Bool.or_eq_true, Bool.and_eq_true, decide_eq_true_eq, List.all_eq_true] at hl
    rcases hl with hl | hl
    · intro x hx; rw [List.eq_nil_of_length_eq_zero hl] at hx; cases hx
    · exact hl.2.2
  have hit' : ∀ x ∈ m.items, okIt x = true := List.all_eq_true.1 hit
  have z0 : ∀ x : Int, (x != 0) = false → 0 = x := fun x hx => by simp at hx; exact hx.symm
  rw [fields_eq hk]
  rw [rFold_opt (M' := ⟨m.k, 0, 0, 0, 0, 0, 0, 0, [], [], 0, 0, 0, 0, ⟨#[]⟩⟩) (fun _ => by simp [rStep, bk, zero]) (fun hx => by rw [← z0 _ hx]; rfl)]
  rw [rFold_opt (M' := ⟨m.k, m.v, 0, 0, 0, 0, 0, 0, [], [], 0, 0, 0, 0, ⟨#[]⟩⟩) (fun _ => by simp [rStep, bv]) (fun hx => by rw [← z0 _ hx])]
  rw [rFold_opt (M' := ⟨m.k, m.v, m.n, 0, 0, 0, 0, 0, [], [], 0, 0, 0, 0, ⟨#[]⟩⟩) (fun _ => by simp [rStep, bn]) (fun hx => by rw [← z0 _ hx])]
  rw [rFold_opt (M' := ⟨m.k, m.v, m.n, m.o, 0, 0, 0, 0, [], [], 0, 0, 0, 0, ⟨#[]⟩⟩) (fun _ => by simp [rStep, bo]) (fun hx => by rw [← z0 _ hx])]
  rw [rFold_opt (M' := ⟨m.k, m.v, m.n, m.o, m.c, 0, 0, 0, [], [], 0, 0, 0, 0, ⟨#[]⟩⟩) (fun _ => by simp [rStep, bc]) (fun hx => by rw [← z0 _ hx])]
  rw [rFold_opt (M' := ⟨m.k, m.v, m.n, m.o, m.c, m.b, 0, 0, [], [], 0, 0, 0, 0, ⟨#[]⟩⟩) (fun _ => by simp [rStep, bb]) (fun hx => by rw [← z0 _ hx])]
  rw [rFold_opt (M' := ⟨m.k, m.v, m.n, m.o, m.c, m.b, m.l, 0, [], [], 0, 0, 0, 0, ⟨#[]⟩⟩) (fun _ => by simp [rStep, bl]) (fun hx => by rw [← z0 _ hx])]
  rw [rFold_opt (M' := ⟨m.k, m.v, m.n, m.o, m.c, m.b, m.l, m.cl, [], [], 0, 0, 0, 0, ⟨#[]⟩⟩) (fun _ => by simp [rStep, bcl]) (fun hx => by rw [← z0 _ hx])]
  rw [rFold_lives hlv, rFold_items hit']
  simp only [List.nil_append]
  rw [rFold_opt (M' := ⟨m.k, m.v, m.n, m.o, m.c, m.b, m.l, m.cl, m.lives, m.items, m.mo, m.ms, m.mm, 0, ⟨#[]⟩⟩) (fun hx => by
    have hR : manR m.mo m.ms m.mm = true := by
      unfold manB at hm
      simp only [Bool.not_eq_true'] at hx
      rw [hx] at hm
      simpa using hm
    obtain ⟨a, b, c⟩ := man_nm hR
    simp [rStep, a, b, c]) (fun hx => by
    simp only [Bool.not_eq_false', manZ, Bool.and_eq_true, beq_iff_eq] at hx
    obtain ⟨x1, x2, x3⟩ := hx
    rw [x1, x2, x3])]
  rw [rFold_opt (M' := ⟨m.k, m.v, m.n, m.o, m.c, m.b, m.l, m.cl, m.lives, m.items, m.mo, m.ms, m.mm, m.nu, ⟨#[]⟩⟩) (fun _ => by simp [rStep, bnu]) (fun hx => by rw [← z0 _ hx])]
  rw [rFold_opt (M' := m) (fun _ => by simp [rStep]) (fun hx => by
    have : m.d.size = 0 := by
      by_cases h0 : m.d.size = 0
      · exact h0
      · rw [snz_iff.2 h0] at hx; cases hx
    rw [← empty_of this])]
  rfl
/-- What the document's Unpack answers is what the code's does. -/
theorem ref_none {s : ByteArray} (hs : s.size ≤ 60000) (h : pWhole s = none) : unpM s = zero ∧ unpE s = 4 := by
  unfold unpM unpE
  rw [if_neg (by omega), if_neg (by omega), h]
  exact ⟨rfl, rfl⟩
theorem whole_fold {s : ByteArray} {m : Mm} (h : pWhole s = some m) : rFold zero (Pl.unpOut (Po.Pl.ungOut s).data.toList) = some m := by
  unfold pWhole at h
  split at h
  · obtain ⟨hr, hf⟩ := pMemo_inv h
    rw [← hf, rFold_fields hr]
  · cases h
theorem ref_fold_none {s : ByteArray} (hs : s.size ≤ 60000) (h : rFold zero (Pl.unpOut (Po.Pl.ungOut s).data.toList) = none) : unpM s = zero ∧ unpE s = 4 := by
  refine ref_none hs ?_
  cases hp : pWhole s with
  | none => rfl
  | some m => rw [whole_fold hp] at h; cases h
theorem ref_fold_no {s : ByteArray} {m : Mm} (hs : s.size ≤ 60000) (h : rFold zero (Pl.unpOut (Po.Pl.ungOut s).data.toList) = some m) (hp : ¬ (packErr m = 0 ∧ packOut m = s)) : unpM s = zero ∧ unpE s = 4 := by
  refine ref_none hs ?_
  cases hw : pWhole s with
  | none => rfl
  | some m' =>
    rw [whole_fold hw] at h
    obtain rfl := Option.some.inj h
    obtain ⟨hr, hk⟩ := whole_inv hw
    refine absurd ⟨?_, ?_⟩ hp
    · unfold packErr; rw [if_pos hr, if_neg (by rw [hk]; omega)]
    · unfold packOut; rw [if_pos hr, if_neg (by rw [hk]; omega), hk]
theorem ref_fold_yes {s : ByteArray} {m : Mm} (hp : packErr m = 0 ∧ packOut m = s) : unpM s = m ∧ unpE s = 0 := by
  obtain ⟨h1, h2⟩ := hp
  unfold packErr at h1
  split at h1
  · rename_i hr
    split at h1
    · cases h1
    · rename_i hl
      unfold packOut at h2
      rw [if_pos hr, if_neg hl] at h2
      have := unp_packed hr (by omega)
      rwa [h2] at this
  · cases h1
end Me
end Go.Proofs.YtkdhbjmpjbdobaaGreatDoor
/- RefUnpack -/
namespace Go.Proofs.YtkdhbjmpjbdobaaGreatDoor
open Go.ChangeShapes Go.WideShapes Go.ChangeAt Go.RowKit Go.Deep
set_option maxRecDepth 100000

theorem own_drewN' {w : World} {base : Nat} {e : TypeId} {size : Nat} {v : Value} {n : Nat} {xs : List Value} (h : w.ownsRow base e size v n xs) (k : Nat) : (w.drewN k).ownsRow base e size v n xs := h
theorem info134' : (Tryz.prog.info? 134).map (fun i => (i.zero, i.size, i.bytes)) = some (some (.agg #[.int .i64 0, .string ⟨#[]⟩]), 2, 24) := by kernel_rfl

set_option maxRecDepth 100000 in
set_option maxHeartbeats 2000000 in
theorem refUnpack_any (s : ByteArray) (w : World) (hs : s.size ≤ 1048576) :
    Calls Tryz.prog 61 #[.string s] w fun e w' => ∃ r, e = .returned (.tuple #[r, .int .i64 (Pl.unpErr s.data.toList)]) ∧
      w'.ownsRow w.heap.size 134 2 r (Pl.unpOut s.data.toList).length (cellsOf (Pl.unpOut s.data.toList)) ∧ Below w.heap.size w w' := by
  obtain ⟨i0, hi, hz0, hz1, hz2⟩ := info_parts info134'
  have hsl : s.data.toList.length = s.size := by simp
  have HG : Hid (∀ i (h : i < s.size), s.data.toList.getD i 0 = s[i]) := fun i h => Pl.getD_at s i h
  have HX : Hid (∀ a b, s.extract a b = Pl.txt ((s.data.toList.drop a).take (b - a))) := Pl.extract_txt s
  obtain ⟨L, hL⟩ : ∃ L, s.data.toList = L := ⟨_, rfl⟩
  rw [hL] at hsl HG HX ⊢
  have HSL : Hid (L.length = s.size) := hsl
  clear hL hsl
  go_enter Tryz.func61, Tryz.ntmps61
  go_wp2
  go_loopw [4, 5, 6] (fun r t z wr => ∃ (k : Nat) (done : List (Int × ByteArray)) (la : Int), z = .int .i64 k ∧ t = .int .i64 la ∧ k ≤ s.size ∧ la ≤ 255 ∧ Pl.Mid L done la (L.drop k) ∧
      wr.ownsRow w.heap.size 134 2 r done.length (cellsOf done) ∧ Below w.heap.size w wr) (fun _ _ z _ => s.size - (intOf z).toNat)
  case atStart => exact ⟨0, [], 1, rfl, rfl, Nat.zero_le _, by omega, Pl.Mid.start L, World.ownsRow_nil _ _ _ _, Below.refl _ _⟩
  case round =>
    obtain ⟨k, done, la, rfl, rfl, hk, hla, hmid, hown, hbl⟩ := hrel
    have hsz := hbl.size
    have HM : Hid (Pl.Mid L done la (L.drop k)) := hmid
    have hdl : done.length ≤ 1048576 := by have := hmid.1; have := HSL.out; omega
    have hln : (L.drop k).length = s.size - k := by rw [List.length_drop, HSL.out]
    clear hmid
    by_cases h0 : k = s.size
    · have hnil : L.drop k = [] := List.eq_nil_of_length_eq_zero (by omega)
      have H : Hid (Pl.unpOut L = done ∧ Pl.unpErr L = 0) := by
        have := HM.out
        rw [hnil] at this
        exact this.finish
      have h0' : ¬ k < s.size := by omega
      clear hnil hln h0
      go_wp2
      go_ret2
      rw [H.out.1, H.out.2]
      exact ⟨_, rfl, hown, hbl⟩
    · have hlt : k < s.size := by omega
      have HNN : Hid (L.drop k ≠ []) := by
        intro h
        rw [h] at hln
        simp at hln
        omega
      clear h0
      by_cases h1 : s.size - k < 3
      · have H : Hid (Pl.unpOut L = [] ∧ Pl.unpErr L = 10) := HM.out.fail HNN.out (by simp only [Pl.stepErr, hln, if_pos h1]) (by decide)
        clear hln
        have h1' : (s.size : Int) - (k : Int) < 3 := by omega
        go_wp2
        go_ret2
        rw [H.out.1, H.out.2]
        exact ⟨_, rfl, World.ownsRow_nil _ _ _ _, hbl⟩
      · have h1' : ¬ (s.size : Int) - (k : Int) < 3 := by omega
        have p1 : k + 1 < s.size := by omega
        have p2 : k + 2 < s.size := by omega
        have e0 : Pl.tagOf (L.drop k) = ((s[k]'hlt).toNat : Int) := by rw [Pl.tagOf, Pl.getD_drop, Nat.add_zero, HG.out k hlt]
        have e1 : Pl.lenOf (L.drop k) = 256 * (s[k + 1]'p1).toNat + (s[k + 2]'p2).toNat := by rw [Pl.lenOf, Pl.getD_drop, Pl.getD_drop, HG.out _ p1, HG.out _ p2]
        have b0 : (s[k]'hlt).toNat < 256 := (s[k]'hlt).toNat_lt
        have b1 : (s[k + 1]'p1).toNat < 256 := (s[k + 1]'p1).toNat_lt
        have b2 : (s[k + 2]'p2).toNat < 256 := (s[k + 2]'p2).toNat_lt
        by_cases h2 : (s[k]'hlt).toNat = 0
        · have h2' : (((s[k]'hlt).toNat : Int) == 0) = true := by simp; omega
          have H : Hid (Pl.unpOut L = [] ∧ Pl.unpErr L = 4) := HM.out.fail HNN.out (by unfold Pl.stepErr; rw [e0, hln, if_neg h1, if_pos (by omega)]) (by decide)
          clear e0 e1 hln h2
          go_wp2
          go_ret2
          rw [H.out.1, H.out.2]
          exact ⟨_, rfl, World.ownsRow_nil _ _ _ _, hbl⟩
        · have h2' : (((s[k]'hlt).toNat : Int) == 0) = false := by simp; omega
          by_cases h3 : ((s[k]'hlt).toNat : Int) < la
          · have H : Hid (Pl.unpOut L = [] ∧ Pl.unpErr L = 11) := HM.out.fail HNN.out (by
              unfold Pl.stepErr
              rw [e0, hln, if_neg h1, if_neg (by omega), if_pos h3]) (by decide)
            clear e0 e1 hln h2
            go_wp2
            go_ret2
            rw [H.out.1, H.out.2]
            exact ⟨_, rfl, World.ownsRow_nil _ _ _ _, hbl⟩
          · have q1 : (k : Int) + 1 < (s.size : Int) := by omega
            have q2 : (k : Int) + 2 < (s.size : Int) := by omega
            have q3 : (0 : Int) ≤ (k : Int) + 1 := by omega
            have q4 : (0 : Int) ≤ (k : Int) + 2 := by omega
            by_cases h4 : (s.size : Int) - (k : Int) - 3 < 256 * ((s[k + 1]'p1).toNat : Int) + ((s[k + 2]'p2).toNat : Int)
            · have H : Hid (Pl.unpOut L = [] ∧ Pl.unpErr L = 10) := HM.out.fail HNN.out (by
                unfold Pl.stepErr
                rw [e0, e1, hln, if_neg h1, if_neg (by omega), if_neg h3, if_pos (by omega)]) (by decide)
              clear e0 e1 hln h2
              go_wp2
              go_quiet (fail)
              go_wp2
              go_ret2
              rw [H.out.1, H.out.2]
              exact ⟨_, rfl, World.ownsRow_nil _ _ _ _, Go.below_drewN hbl _⟩
            · have HST : Hid (Pl.Mid L (done ++ [Pl.fieldOf (L.drop k)]) (Pl.tagOf (L.drop k)) ((L.drop k).drop (3 + Pl.lenOf (L.drop k)))) := HM.out.step HNN.out (by
                unfold Pl.stepErr
                rw [e0, e1, hln, if_neg h1, if_neg (by omega), if_neg h3, if_neg (by omega)])
              have HFO : Hid (Pl.fieldOf (L.drop k) = (((s[k]'hlt).toNat : Int), s.extract (k + 3) (k + 3 + (256 * (s[k + 1]'p1).toNat + (s[k + 2]'p2).toNat)))) := by
                show Pl.fieldOf (L.drop k) = _
                unfold Pl.fieldOf
                rw [e0, e1, HX.out, List.drop_drop, show k + 3 + (256 * (s[k + 1]'p1).toNat + (s[k + 2]'p2).toNat) - (k + 3) = 256 * (s[k + 1]'p1).toNat + (s[k + 2]'p2).toNat from by omega]
              have HE0 : Hid (Pl.tagOf (L.drop k) = ((s[k]'hlt).toNat : Int)) := e0
              have HE1 : Hid (Pl.lenOf (L.drop k) = 256 * (s[k + 1]'p1).toNat + (s[k + 2]'p2).toNat) := e1
              clear e0 e1 hln h2
              go_wp2
              go_quiet (fail)
              go_wp2_with (at_builtin; refine wpList_append_own _ rfl (.tmp 46) (.tmp 57) 130 rfl w.heap.size 134 i0 (.agg #[.int .i64 0, .string ⟨#[]⟩]) 2 24 Tryz.underlying130 hi hz0 hz1 hz2 rfl (by decide) _ _ _ rfl ((own_drewN' hown _).alloc _) ⟨wr.heap.size, 0, none⟩ 1 1 [.int .i64 ((s[k]'hlt).toNat : Int), .string (s.extract (k + 3) (k + 3 + (256 * (s[k + 1]'p1).toNat + (s[k + 2]'p2).toNat)))] rfl rfl (App.two_new _ _ rfl _ _ _) (App.one2 _ _) (by unfold maxLen; omega) (by omega) (by first | omega | (simp; omega)) ?_; intro v1 w1 hown1 hgrow1 _)
              go_roundw
              case rel =>
                refine ⟨k + (3 + Pl.lenOf (L.drop k)), done ++ [Pl.fieldOf (L.drop k)], Pl.tagOf (L.drop k), ?_, by rw [HE0.out], ?_, by rw [HE0.out]; omega, ?_, ?_, ?_⟩
                · rw [HE1.out]; go_num
                · rw [HE1.out]; omega
                · rw [← List.drop_drop]; exact HST.out
                · rw [HFO.out, cellsOf_append, List.length_append]
                  exact hown1
                · exact ((Go.below_drewN hbl _).alloc hsz _).grown hgrow1 (by simp; omega) (fun g hg => (hown.lt g hg).1)
              case measure => simp only [intOf]; omega
end Go.Proofs.YtkdhbjmpjbdobaaGreatDoor
/- WPc -/
namespace Go.Proofs.YtkdhbjmpjbdobaaGreatDoor
open Go
set_option maxRecDepth 100000
namespace Pc
section
variable {P : Program} {ops : Array Oper} {Q : Exit → Act → World → Prop} {md : Region.Mode}
/-- The operation yields v in whatever world and leaves that; so it does in every frame in which it is the same. -/
def Ys (P : Program) (ops : Array Oper) (o : Oper) (v : Value) (a : Act) : Prop :=
  Region.wanted o (yielded ops a.tmps) = true ∧ ∀ a' : Act, execOp a'.eval o = execOp a.eval o → ∀ (w : World) (K : Act → World → Prop) (Q : Exit → Act → World → Prop), K (a'.put o.dst v) w → o.wp P a' w K Q
theorem Ys.same {o : Oper} {v : Value} {a b : Act} (h : Ys P ops o v a) (he : execOp b.eval o = execOp a.eval o) (hw : Region.wanted o (yielded ops b.tmps) = Region.wanted o (yielded ops a.tmps)) : Ys P ops o v b :=
  ⟨hw.trans h.1, fun a' ha => h.2 a' (ha.trans he)⟩
theorem Ys.step {i : Nat} {o : Oper} {v : Value} {a : Act} (hi : ops[i]? = some o) (h : Ys P ops o v a) {K : Act → World → Prop} {w : World} (hk : K (a.put o.dst v) w) : wpOp P ops Q i K a w := by
  unfold Go.wpOp
  simp only [hi, h.1, if_true]
  exact .inl (h.2 a rfl w K Q hk)
/-- A call of a function that leaves the world. -/
theorem Ys.call {o : Oper} {v : Value} {a : Act} {f : FuncId} {args : Array Value} (hw : Region.wanted o (yielded ops a.tmps) = true) (he : ∀ w, (execOp a.eval o).run P w = .ok (.enter f args) w) (hc : ∀ w, Calls P f args w fun e w' => e = .returned v ∧ w' = w) : Ys P ops o v a := by
  refine ⟨hw, fun a' ha w K Q hk => ?_⟩
  unfold Oper.wp
  rw [ha, he w, Oper.upon_enter]
  refine (hc w).mono ?_
  rintro e w' ⟨rfl, rfl⟩
  exact hk
theorem put {j : Nat} {oi oj : Oper} {v : Value} (hj : ops[j]? = some oj) (hap : oi.apart ops oj = true) (hsi : ∀ cs b, oi.op ≠ .select cs b) (hsj : ∀ cs b, oj.op ≠ .select cs b)
    (hQ : ∀ c a w, Q (.panic c) (a.put oi.dst v) w → Q (.panic c) a w) {K : Act → World → Prop} {a : Act} {w : World} (hy : Ys P ops oi v a) (h : wpOp P ops Q j K (a.put oi.dst v) w) :
    wpOp P ops Q j (fun b w' => Ys P ops oi v b ∧ K (b.put oi.dst v) w') a w := by
  -- the frame that the other operation leaves is one in which the first is the same: so the law for what yields by an equation serves, at an operation that yields so
  obtain ⟨h1, h2, h3⟩ := Oper.apart_spec hap
  have kp : ∀ (b : Act), Ys P ops oi v b → ∀ u, Ys P ops oi v (b.put oj.dst u) := fun b hb u => hb.same (execOp_put oi hsi b oj.dst u h3) (wanted_put oi b oj.dst u h3)
  have kd : ∀ d, Ys P ops oi v { a with defers := d :: a.defers } := fun d => hy.same rfl rfl
  have hc : ∀ (b : Act) (u : Value), (b.put oi.dst v).put oj.dst u = (b.put oj.dst u).put oi.dst v := fun b u => Act.put_comm b v u h2
  unfold wpOp at h ⊢
  simp only [hj] at h ⊢
  rw [wanted_put oj a oi.dst v h1] at h
  by_cases hw : Region.wanted oj (yielded ops a.tmps) = true
  · rw [if_pos hw] at h ⊢
    unfold Oper.asks Oper.wp at h ⊢
    rw [execOp_put oj hsj a oi.dst v h1] at h
    refine h.imp ?_ id
    generalize (execOp a.eval oj).run P w = r
    intro h
    match r, h with
    | .ok (.value u) w', h => exact ⟨kp a hy u, hc a u ▸ h⟩
    | .ok .skip w', h => exact ⟨kp a hy _, hc a undef ▸ h⟩
    | .ok (.defer d) w', h =>
      refine ⟨kp _ (kd d) _, ?_⟩
      rw [← hc, ← Act.put_defers]
      exact h
    | .ok (.enter f args) w', h =>
      refine Calls.mono h fun e w'' he => ?_
      match e, he with
      | .returned u, he => exact ⟨kp a hy u, hc a u ▸ he⟩
      | .panicked c, he => exact hQ _ _ _ he
      | .outgrown, he => exact he
    | .ok (.row row args) w', h => exact Rows.mono h fun u w'' he => ⟨kp a hy u, hc a u ▸ he⟩
    | .halt (.panic u) w', h => exact hQ _ _ _ h
  · rw [if_neg hw] at h ⊢
    exact ⟨kp a hy _, hc a undef ▸ h⟩
theorem first {i : Nat} {oi : Oper} {v : Value} (hi : ops[i]? = some oi) (hsel : ∀ (j : Nat) (o : Oper) cs b, ops[j]? = some o → o.op ≠ .select cs b) (hQ : ∀ c a w, Q (.panic c) (a.put oi.dst v) w → Q (.panic c) a w) :
    ∀ (n : Nat) (l : Array Bool) (a : Act) (w : World), (∀ j oj, ops[j]? = some oj → j ≠ i → l.getD j true = false → (∀ e ∈ oj.after, Region.binds md e = true → e.on ≠ i) → oi.apart ops oj = true) →
      i ∈ Region.ready md ops l → Ys P ops oi v a → wpAny P md ops Q n (l.setIfInBounds i true) (a.put oi.dst v) w → wpAny P md ops Q (n + 1) l a w
  | 0, l, a, w, _, hr, hy, H => ⟨fun h => (by rw [h] at hr; cases hr), fun j hj => by
      by_cases hji : j = i
      · subst hji; exact hy.step hi H
      · have := ready_mono hj hji
        rw [H.1] at this
        cases this⟩
  | n + 1, l, a, w, hfree, hr, hy, H => ⟨fun h => (by rw [h] at hr; cases hr), fun j hj => by
      by_cases hji : j = i
      · subst hji; exact hy.step hi H
      · obtain ⟨hjun, oj, hoj, hall⟩ := mem_ready.1 hj
        have hiun := (mem_ready.1 hr).1
        have hnot : ∀ e ∈ oj.after, Region.binds md e = true → e.on ≠ i := fun e he hb heq => by
          have h1 := hall e he hb
          rw [heq] at h1
          rcases Nat.lt_or_ge i l.size with h' | h'
          · simp [h'] at hiun h1; rw [hiun] at h1; cases h1
          · simp [Array.getElem?_eq_none h'] at h1
        have h2 := put hoj (hfree j oj hoj hji hjun hnot) (fun cs b => hsel i oi cs b hi) (fun cs b => hsel j oj cs b hoj) hQ hy (H.2 j (ready_mono hj hji))
        refine wpOp_mono (fun b w' h3 => first hi hsel hQ n (l.setIfInBounds j true) b w' (fun k ok hk hki hun hno => hfree k ok hk hki ?_ hno) (ready_mono hr (Ne.symm hji)) h3.1 ?_) h2
        · by_cases hjk : j = k
          · subst hjk; exact hjun
          · rw [getD_set_ne true hjk] at hun; exact hun
        · rw [Array.setIfInBounds_comm _ _ hji]
          exact h3.2⟩
/-- A call that leaves every world is taken first. -/
theorem take {i : Nat} {oi : Oper} {v : Value} {n : Nat} {l : Array Bool} {a : Act} {w : World} (hi : ops[i]? = some oi) (hs : Region.noSelect ops = true) (hf : Region.free md ops l i = true) (hr : (Region.ready md ops l).contains i = true)
    (hQ : ∀ c a w, Q (.panic c) (a.put oi.dst v) w → Q (.panic c) a w) (hy : Ys P ops oi v a) (h : wpAny P md ops Q n (l.setIfInBounds i true) (a.put oi.dst v) w) : wpAny P md ops Q (n + 1) l a w :=
  first hi (Region.noSelect_spec hs) hQ n l a w (Region.free_spec hi hf) (by simpa using hr) hy h
end
end Pc
end Go.Proofs.YtkdhbjmpjbdobaaGreatDoor
/- WRUe -/
namespace Go.Proofs.YtkdhbjmpjbdobaaGreatDoor
open Go.ChangeShapes Go.WideShapes Go.ChangeAt Go.RowKit Go.Deep Me
set_option maxRecDepth 100000
theorem rnum_any (s : ByteArray) (a z : Nat) (w : World) (ha : a ≤ 64) (hz : z ≤ 64) : Calls Tryz.prog 62 #[.string s, .int .i64 a, .int .i64 z] w fun e w' => e = .returned (.int .i64 (nm s a z)) ∧ w' = w := by
  by_cases h : s.size < a + z
  · have H : Hid (nm s a z = 0) := by show _ = _; rw [nm_eq, if_pos h]
    rw [H.out]
    have h' : (s.size : Int) < (a : Int) + (z : Int) := by omega
    clear h
    go_enter Tryz.func62, Tryz.ntmps62
    go_wp2
    go_ret
    exact ⟨rfl, rfl⟩
  · have H : Hid (nm s a z = Pl.numVal (s.extract a (a + z))) := by show _ = _; rw [nm_eq, if_neg h]
    have HS : Hid ((s.extract a (a + z)).size ≤ maxLen) := by show _ ≤ _; rw [ByteArray.size_extract]; unfold maxLen; omega
    rw [H.out]
    have h' : ¬ (s.size : Int) < (a : Int) + (z : Int) := by omega
    go_enter Tryz.func62, Tryz.ntmps62
    go_wp2_with fail
    refine (refNumber_any _ _ HS.out).mono ?_
    rintro e w1 ⟨rfl, rfl⟩
    go_wp2
    go_ret
    exact ⟨rfl, rfl⟩
theorem FieldsAt.open {B : Nat} {w : World} {v : Value} {l : List (Int × ByteArray)} (h : FieldsAt B w v l) : ∃ ao cap, v = .slice ao l.length cap ∧ l.length ≤ maxLen ∧ ∀ j, j < l.length → ∃ b off, ao = some ⟨b, off, none⟩ ∧ b < B ∧ w.cell? ⟨b, off + j * 2, none⟩ = some (.int .i64 (l.getD j (0, .empty)).1) ∧ w.cell? ⟨b, off + j * 2 + 1, none⟩ = some (.string (l.getD j (0, .empty)).2) := by
  rcases h with ⟨ao, cap, rfl, rfl⟩ | ⟨b, off, cap, rfl, hlt, _, hc, hm, hx⟩
  · exact ⟨ao, cap, rfl, by simp, fun j hj => by simp at hj⟩
  · exact ⟨_, cap, rfl, by omega, fun j hj => ⟨b, off, rfl, hlt, hx j hj⟩⟩
theorem str_ne {a b : ByteArray} (h : a ≠ b) : (a.toList == b.toList) = false := by
  rw [beq_eq_false_iff_ne]
  intro e
  rw [ByteArray.toList_eq, ByteArray.toList_eq] at e
  exact h (ByteArray.ext (Array.ext' e))
theorem bf_of {w : World} {A : Nat} {t : Int} {s : ByteArray} (h : w.heap[A]? = some (BF t s)) : w.cell? ⟨A, 0, none⟩ = some (.int .i64 t) ∧ w.cell? ⟨A, 1, none⟩ = some (.string s) := by
  constructor <;> simp [World.cell?, h]
structure Ru (w0 : World) (M : Nat) (F : Value) (l : List (Int × ByteArray)) (k : Nat) (m : Mm) (u z : Value) (w : World) : Prop where
  bx : w.heap[M]? = some (BMr m u z)
  ru : Row EI w (M + 1) 3 u m.lives
  rz : Row EM w (M + 1) 137 z m.items
  rs : w.heap[w0.heap.size]? = some (BMr Me.zero NS NS)
  fl : FieldsAt M w F l
  bel : Below w0.heap.size w0 w
  hR : w0.heap.size < M
  eq : rFold Me.zero l = rFold m (l.drop k)
  lv : m.lives.length ≤ k
  li : m.items.length ≤ k
theorem FieldsAt.grown {w w' : World} {M : Nat} {F : Value} {l : List (Int × ByteArray)} {X : Option Nat} (h : FieldsAt M w F l) (hg : w.grownBy w' X) (hM : M ≤ w.heap.size) (hX : ∀ k, k < M → some k ≠ X) : FieldsAt M w' F l :=
  h.below (C := M) ⟨hg.os, hg.tape, hg.output, hg.size, fun k hk => hg.block k (by omega) (hX k hk)⟩ (Nat.le_refl _)
theorem Ru.up {w0 w w' : World} {M k : Nat} {F u z : Value} {l : List (Int × ByteArray)} {m : Mm} (h : Ru w0 M F l k m u z w) (hb : Below w.heap.size w w') : Ru w0 M F l k m u z w' :=
  ⟨blk h.bx hb, h.ru.up hb, h.rz.up hb, blk h.rs hb, h.fl.below hb (Nat.le_of_lt (block_lt h.bx)), h.bel.trans (hb.mono h.bel.size), h.hR, h.eq, h.lv, h.li⟩
theorem Ru.eqv {w0 w w' : World} {M k : Nat} {F u z : Value} {l : List (Int × ByteArray)} {m : Mm} (h : Ru w0 M F l k m u z w) (h1 : w'.heap = w.heap) (h2 : w'.os = w.os) (h3 : w'.tape = w.tape) (h4 : w'.output = w.output) : Ru w0 M F l k m u z w' :=
  h.up ⟨h2, h3, h4, by rw [h1]; exact Nat.le_refl _, fun k _ => by rw [h1]⟩
/-- One cell of the memo's box is written. -/
theorem Ru.put {w0 w : World} {M k : Nat} {F u z : Value} {l : List (Int × ByteArray)} {m m' : Mm} (h : Ru w0 M F l k m u z w) (j : Nat) (p : Value)
    (hk : (#[.int .i64 m.k, .int .i64 m.v, .int .i64 m.n, .int .i64 m.o, .int .i64 m.c, .int .i64 m.b, .int .i64 m.l, .int .i64 m.cl, u, z, .int .i64 m.mo, .int .i64 m.ms, .int .i64 m.mm, .int .i64 m.nu, .string m.d] : Array Value).setIfInBounds j p = #[.int .i64 m'.k, .int .i64 m'.v, .int .i64 m'.n, .int .i64 m'.o, .int .i64 m'.c, .int .i64 m'.b, .int .i64 m'.l, .int .i64 m'.cl, u, z, .int .i64 m'.mo, .int .i64 m'.ms, .int .i64 m'.mm, .int .i64 m'.nu, .string m'.d])
    (hl : m'.lives = m.lives) (hi : m'.items = m.items) (k' : Nat) (hkk : k ≤ k') (he : rFold m (l.drop k) = rFold m' (l.drop k')) : Ru w0 M F l k' m' u z (w.setCell ⟨M, j, none⟩ p) := by
  have h1 := h.hR
  have hg := grown_set1 w M j p
  have hM := block_lt h.bx
  refine ⟨by rw [set_at h.bx, hk], ?_, ?_, (hg.block _ (block_lt h.rs) (by simp; omega)).trans h.rs, h.fl.grown hg (by omega) (fun q hq => by simp; omega), below_grown h.bel hg (by omega) (by omega), h1, by rw [h.eq, he], by rw [hl]; exact Nat.le_trans h.lv hkk, by rw [hi]; exact Nat.le_trans h.li hkk⟩
  · rw [hl]; exact h.ru.stay hg (h.ru.ne_low (by omega))
  · rw [hi]; exact h.rz.stay hg (h.rz.ne_low (by omega))
theorem Ru.man {w0 w : World} {M k : Nat} {F u z : Value} {l : List (Int × ByteArray)} {m : Mm} (h : Ru w0 M F l k m u z w) (a b c : Int)
    (he : rFold m (l.drop k) = rFold { m with mo := a, ms := b, mm := c } (l.drop (k + 1))) : Ru w0 M F l (k + 1) { m with mo := a, ms := b, mm := c } u z (((w.setCell ⟨M, 10, none⟩ (.int .i64 a)).setCell ⟨M, 11, none⟩ (.int .i64 b)).setCell ⟨M, 12, none⟩ (.int .i64 c)) := by
  have h1 := h.hR
  have hg := grown_trans (grown_trans (grown_set1 w M 10 (.int .i64 a)) (grown_set1 _ M 11 (.int .i64 b))) (grown_set1 _ M 12 (.int .i64 c))
  have hM := block_lt h.bx
  exact ⟨by rw [set_at (set_at (set_at h.bx _ _) _ _)]; rfl, h.ru.stay hg (h.ru.ne_low (by omega)), h.rz.stay hg (h.rz.ne_low (by omega)), (hg.block _ (block_lt h.rs) (by simp; omega)).trans h.rs, h.fl.grown hg (by omega) (fun q hq => by simp; omega), below_grown h.bel hg (by omega) (by omega), h1, by rw [h.eq, he], Nat.le_succ_of_le h.lv, Nat.le_succ_of_le h.li⟩
/-- A life is appended; the list is written into the box. -/
theorem Ru.life {w0 w w1 : World} {M k : Nat} {F u z u' : Value} {l : List (Int × ByteArray)} {m : Mm} {y : Int} (h : Ru w0 M F l k m u z w) (hr : Row EI w1 (M + 1) 3 u' (m.lives ++ [y])) (hg : w.grownBy w1 u.ownBlock)
    (he : rFold m (l.drop k) = rFold { m with lives := m.lives ++ [y] } (l.drop (k + 1))) : Ru w0 M F l (k + 1) { m with lives := m.lives ++ [y] } u' z (w1.setCell ⟨M, 8, none⟩ u') := by
  have h1 := h.hR
  have hM := block_lt h.bx
  have hg2 := grown_set1 w1 M 8 u'
  have hlow : ∀ q, q < M + 1 → some q ≠ u.ownBlock := fun q hq e => h.ru.ne_low hq e.symm
  have hbx : w1.heap[M]? = some (BMr m u z) := (hg.block M hM (hlow M (by omega))).trans h.bx
  have hrs : w1.heap[w0.heap.size]? = some (BMr Me.zero NS NS) := (hg.block _ (block_lt h.rs) (hlow _ (by omega))).trans h.rs
  have hz1 : Row EM w1 (M + 1) 137 z m.items := by
    rcases h.rz with hh | ⟨g, cap, cur, rfl, hB, hh, hrr⟩
    · exact .inl hh
    · refine .inr ⟨g, cap, cur, rfl, hB, (hg.block g (block_lt hh) ?_).trans hh, hrr⟩
      intro e
      exact h.ru.ne_kind hh (by decide) e.symm
  refine ⟨by rw [set_at hbx]; rfl, hr.stay hg2 (hr.ne_low (by omega)), hz1.stay hg2 (hz1.ne_low (by omega)), (hg2.block _ (block_lt hrs) (by simp; omega)).trans hrs, (h.fl.grown hg (by omega) (fun q hq => hlow q (by omega))).grown hg2 (by have := hg.size; omega) (fun q hq => by simp; omega), ?_, h1, by rw [h.eq, he], by simp only [List.length_append, List.length_singleton]; have := h.lv; omega, by have := h.li; simp only; omega⟩
  refine below_grown ?_ hg2 (by omega) (by have := hg.size; have := h.bel.size; omega)
  exact ⟨hg.os.trans h.bel.os, hg.tape.trans h.bel.tape, hg.output.trans h.bel.output, Nat.le_trans h.bel.size hg.size, fun q hq => (hg.block q (by have := h.bel.size; omega) (hlow q (by omega))).trans (h.bel.block q hq)⟩
/-- An item is appended; the list is written into the box. -/
theorem Ru.item {w0 w w1 : World} {M k : Nat} {F u z z' : Value} {l : List (Int × ByteArray)} {m : Mm} {y : It} (h : Ru w0 M F l k m u z w) (hr : Row EM w1 (M + 1) 137 z' (m.items ++ [y])) (hg : w.grownBy w1 z.ownBlock)
    (he : rFold m (l.drop k) = rFold { m with items := m.items ++ [y] } (l.drop (k + 1))) : Ru w0 M F l (k + 1) { m with items := m.items ++ [y] } u z' (w1.setCell ⟨M, 9, none⟩ z') := by
  have h1 := h.hR
  have hM := block_lt h.bx
  have hg2 := grown_set1 w1 M 9 z'
  have hlow : ∀ q, q < M + 1 → some q ≠ z.ownBlock := fun q hq e => h.rz.ne_low hq e.symm
  have hbx : w1.heap[M]? = some (BMr m u z) := (hg.block M hM (hlow M (by omega))).trans h.bx
  have hrs : w1.heap[w0.heap.size]? = some (BMr Me.zero NS NS) := (hg.block _ (block_lt h.rs) (hlow _ (by omega))).trans h.rs
  have hz1 : Row EI w1 (M + 1) 3 u m.lives := by
    rcases h.ru with hh | ⟨g, cap, cur, rfl, hB, hh, hrr⟩
    · exact .inl hh
    · refine .inr ⟨g, cap, cur, rfl, hB, (hg.block g (block_lt hh) ?_).trans hh, hrr⟩
      intro e
      exact h.rz.ne_kind hh (by decide) e.symm
  refine ⟨by rw [set_at hbx]; rfl, hz1.stay hg2 (hz1.ne_low (by omega)), hr.stay hg2 (hr.ne_low (by omega)), (hg2.block _ (block_lt hrs) (by simp; omega)).trans hrs, (h.fl.grown hg (by omega) (fun q hq => hlow q (by omega))).grown hg2 (by have := hg.size; omega) (fun q hq => by simp; omega), ?_, h1, by rw [h.eq, he], by have := h.lv; simp only; omega, by simp only [List.length_append, List.length_singleton]; have := h.li; omega⟩
  refine below_grown ?_ hg2 (by omega) (by have := hg.size; have := h.bel.size; omega)
  exact ⟨hg.os.trans h.bel.os, hg.tape.trans h.bel.tape, hg.output.trans h.bel.output, Nat.le_trans h.bel.size hg.size, fun q hq => (hg.block q (by have := h.bel.size; omega) (hlow q (by omega))).trans (h.bel.block q hq)⟩
theorem at_newI (w : World) (o : Obj) (y : Int) : AtW EI (((w.alloc o).alloc (.cells #[.int .i64 y] 3)).drew) (.slice (some ⟨w.heap.size + 1, 0, none⟩) 1 1) [y] := by
  have h := heap_alloc_new (w.alloc o) (.cells #[.int .i64 y] 3)
  rw [show (w.alloc o).heap.size = w.heap.size + 1 from by simp] at h
  exact at_oneI (w := ((w.alloc o).alloc (.cells #[.int .i64 y] 3)).drew) h
theorem at_newM (w : World) (o : Obj) (y : It) : AtW EM (((w.alloc o).alloc (BI y)).drew) (.slice (some ⟨w.heap.size + 1, 0, none⟩) 1 1) [y] := by
  have h := heap_alloc_new (w.alloc o) (BI y)
  rw [show (w.alloc o).heap.size = w.heap.size + 1 from by simp] at h
  exact at_oneIt (w := ((w.alloc o).alloc (BI y)).drew) h
theorem Ru.base {w0 w : World} {M k : Nat} {F u z : Value} {l : List (Int × ByteArray)} {m : Mm} (h : Ru w0 M F l k m u z w) : M + 1 ≤ w.heap.size := block_lt h.bx
theorem Ru.lifeM {w0 w w1 : World} {M k : Nat} {F u z : Value} {l : List (Int × ByteArray)} {m : Mm} (h : Ru w0 M F l k m u z w) (hg : w.grownBy w1 u.ownBlock) : w1.heap[M]? = some (BMr m u z) :=
  (hg.block M (block_lt h.bx) (fun e => h.ru.ne_low (show M < M + 1 by omega) e.symm)).trans h.bx
theorem Ru.itemM {w0 w w1 : World} {M k : Nat} {F u z : Value} {l : List (Int × ByteArray)} {m : Mm} (h : Ru w0 M F l k m u z w) (hg : w.grownBy w1 z.ownBlock) : w1.heap[M]? = some (BMr m u z) :=
  (hg.block M (block_lt h.bx) (fun e => h.rz.ne_low (show M < M + 1 by omega) e.symm)).trans h.bx
theorem Ru.start {w w2 : World} {F : Value} {l : List (Int × ByteArray)} (hb : Below (w.alloc (BMr Me.zero NS NS)).heap.size (w.alloc (BMr Me.zero NS NS)) w2) (hf : FieldsAt w2.heap.size w2 F l) : Ru w w2.heap.size F l 0 Me.zero NS NS (w2.alloc (BMr Me.zero NS NS)) := by
  have hs := hb.size
  simp at hs
  exact ⟨heap_alloc_new _ _, Row.nil _ _ _ _, Row.nil _ _ _ _, blk (blk (heap_alloc_new _ _) hb) (below_alloc _ _), hf.below (below_alloc _ _) (Nat.le_refl _), bup (bup (below_alloc _ _) hb) (below_alloc _ _), by omega, rfl, Nat.le_refl _, Nat.le_refl _⟩
/-- The result's box is written: the end. -/
theorem Ru.fin {w0 w w' : World} {M k : Nat} {F u z : Value} {l : List (Int × ByteArray)} {m : Mm} (h : Ru w0 M F l k m u z w) (hg : w.grownBy w' (some w0.heap.size)) : MAt w' m u z ∧ Below w0.heap.size w0 w' := by
  have h1 := h.hR
  exact ⟨⟨atw (h.ru.stay hg (h.ru.ne_low (by omega))).at, atw (h.rz.stay hg (h.rz.ne_low (by omega))).at⟩, below_grown h.bel hg (Nat.le_refl _) h.bel.size⟩
theorem drop_at {l : List (Int × ByteArray)} {k : Nat} (h : k < l.length) {t : Int} {s : ByteArray} (e : l.getD k (0, .empty) = (t, s)) : l.drop k = (t, s) :: l.drop (k + 1) := by
  rw [List.drop_eq_getElem_cons h]
  congr 1
  rw [← e]
  simp [List.getD, h]
theorem rstep {l : List (Int × ByteArray)} {k : Nat} {t : Int} {s : ByteArray} {m m' : Mm} (h : l.drop k = (t, s) :: l.drop (k + 1)) (e : rStep m t s = some m') : rFold m (l.drop k) = rFold m' (l.drop (k + 1)) := by
  rw [h, rFold_cons, e, Option.bind_some]
/-- The answer's form: none, or the memo. -/
def Ra (w : World) (s : ByteArray) (e : Ending) (w' : World) : Prop := (∃ u z, e = .returned (.tuple #[VM (unpM s) u z, .int .i64 (unpE s)]) ∧ MAt w' (unpM s) u z) ∧ Below w.heap.size w w'
theorem ra_no {w w' : World} {s : ByteArray} {E : Int} (h : unpM s = Me.zero ∧ unpE s = E) (hb : Below w.heap.size w w') : Ra w s (.returned (.tuple #[VM Me.zero NS NS, .int .i64 E])) w' := ⟨⟨NS, NS, by rw [h.1, h.2], by rw [h.1]; exact mat_zero _⟩, hb⟩
theorem ra_yes {w w' : World} {s : ByteArray} {m : Mm} {u z : Value} (h : unpM s = m ∧ unpE s = 0) (hm : MAt w' m u z) (hb : Below w.heap.size w w') : Ra w s (.returned (.tuple #[VM m u z, .int .i64 0])) w' := ⟨⟨u, z, by rw [h.1, h.2], by rw [h.1]; exact hm⟩, hb⟩
theorem Ru.skip {w0 w : World} {M k : Nat} {F u z : Value} {l : List (Int × ByteArray)} {m : Mm} (h : Ru w0 M F l k m u z w) (he : rFold m (l.drop k) = rFold m (l.drop (k + 1))) : Ru w0 M F l (k + 1) m u z w :=
  ⟨h.bx, h.ru, h.rz, h.rs, h.fl, h.bel, h.hR, by rw [h.eq, he], Nat.le_succ_of_le h.lv, Nat.le_succ_of_le h.li⟩
set_option linter.unusedSimpArgs false in
set_option maxRecDepth 100000 in
set_option maxRecDepth 100000 in
set_option maxHeartbeats 80000000 in
theorem rUnp_large (ss : ByteArray) (w : World) (hs : 60000 < ss.size) : Calls Tryz.prog 36 #[.string ss] w (Ra w ss) := by
  have HE : Hid (unpM ss = Me.zero ∧ unpE ss = 2) := ⟨by unfold unpM; rw [if_pos hs], by unfold unpE; rw [if_pos hs]⟩
  have hs' : (60000 : Int) < (ss.size : Int) := by omega
  have hbx := heap_alloc_new w (BMr Me.zero NS NS)
  have g0 := fr_at hbx 0
  have g1 := fr_at hbx 1
  have g2 := fr_at hbx 2
  have g3 := fr_at hbx 3
  have g4 := fr_at hbx 4
  have g5 := fr_at hbx 5
  have g6 := fr_at hbx 6
  have g7 := fr_at hbx 7
  have g8 := fr_at hbx 8
  have g9 := fr_at hbx 9
  have g10 := fr_at hbx 10
  have g11 := fr_at hbx 11
  have g12 := fr_at hbx 12
  have g13 := fr_at hbx 13
  have g14 := fr_at hbx 14
  obtain ⟨c0, c1, c2, c3, c4, c5, c6, c7, c8, c9, c10, c11, c12, c13, c14⟩ := mr_of hbx
  clear hs hbx
  go_enter Tryz.func36, Tryz.ntmps36
  go_wp2
  (try simp only [Exit.inBlock, Exit.then])
  refine bodyPost_ret (v := .tuple #[VM Me.zero NS NS, .int .i64 2]) ?_ rfl (ra_no HE.out (below_alloc _ _))
  rw [results_cell_tmp rfl]
  go_simp
  exact ⟨rfl, rfl, rfl, rfl, rfl, rfl, rfl, rfl, rfl, rfl, rfl, rfl, rfl⟩
set_option linter.unusedSimpArgs false in
set_option maxRecDepth 100000 in
set_option maxRecDepth 100000 in
set_option maxHeartbeats 80000000 in
theorem rUnp_bad (ss : ByteArray) (w : World) (hs : ss.size ≤ 60000) (hbad : ¬ (Po.Pl.ungErr ss = 0 ∧ Pl.unpErr (Po.Pl.ungOut ss).data.toList = 0)) : Calls Tryz.prog 36 #[.string ss] w (Ra w ss) := by
  have hs' : ¬ (60000 : Int) < (ss.size : Int) := by omega
  have HS : Hid (ss.size ≤ 60000) := by show _ ≤ _; omega
  have HUS : Hid ((Po.Pl.ungOut ss).size ≤ 60000) := Nat.le_trans (ung_le ss) HS.out
  obtain ⟨tx, htx⟩ : ∃ tx, Po.Pl.ungOut ss = tx := ⟨_, rfl⟩
  have HTX : Hid (Po.Pl.ungOut ss = tx) := htx
  obtain ⟨l, hl⟩ : ∃ l, Pl.unpOut tx.data.toList = l := ⟨_, rfl⟩
  have HL0 : Hid (Pl.unpOut tx.data.toList = l) := hl
  have HL : Hid (Pl.unpOut (Po.Pl.ungOut ss).data.toList = l) := by show _ = _; rw [htx, hl]
  have hlen : l.length ≤ 60000 := by
    have h1 := parse_len tx.data.toList
    have h2 : tx.data.toList.length = tx.size := by simp
    have h3 := HUS.out
    rw [htx] at h3
    rw [hl] at h1
    omega
  obtain ⟨e1, he1⟩ : ∃ e, Po.Pl.ungErr ss = e := ⟨_, rfl⟩
  have HE1 : Hid (Po.Pl.ungErr ss = e1) := he1
  obtain ⟨e2, he2⟩ : ∃ e, Pl.unpErr tx.data.toList = e := ⟨_, rfl⟩
  have HE2 : Hid (Pl.unpErr tx.data.toList = e2) := he2
  have HPW : Hid (¬ (e1 = 0 ∧ e2 = 0) → unpM ss = Me.zero ∧ unpE ss = 4) := fun h => ref_none HS.out (by unfold pWhole; rw [htx, he1, he2, if_neg h])
  obtain ⟨n, hn⟩ : ∃ n, l.length = n := ⟨_, rfl⟩
  have HN : Hid (l.length = n) := hn
  rw [hn] at hlen
  have h0 : ¬ (e1 = 0 ∧ e2 = 0) := by rw [← he1, ← he2, ← htx]; exact hbad
  clear hs hl htx he1 he2 hn hbad
  go_enter Tryz.func36, Tryz.ntmps36
  go_wp2_with fail
  refine (Po.refUnguard_any ss _ (by have := HS.out; omega)).mono ?_
  rintro e w1 ⟨rfl, hb1⟩
  rw [HTX.out, HE1.out]
  have HB1 : Hid (Below (w.alloc (BMr Me.zero NS NS)).heap.size (w.alloc (BMr Me.zero NS NS)) w1) := hb1
  clear hb1
  go_wp2_with fail
  refine (refUnpack_any tx _ (by have := HUS.out; rw [HTX.out] at this; omega)).mono ?_
  rintro e w2 ⟨r0, rfl, ho2, hb2⟩
  rw [HE2.out]
  rw [HL0.out] at ho2
  have hf2 := FieldsAt.of_own ho2
  obtain ⟨pa, ca, rfl, -, -⟩ := hf2.open
  rw [HN.out] at hf2 ⊢
  have HF2 : Hid (FieldsAt w2.heap.size w2 (.slice pa n ca) l) := hf2
  have HB2 : Hid (Below (w.alloc (BMr Me.zero NS NS)).heap.size (w.alloc (BMr Me.zero NS NS)) w2) := bup HB1.out hb2
  clear hb2 ho2 hf2
  have HE : Hid (unpM ss = Me.zero ∧ unpE ss = 4) := HPW.out h0
  have hrs := blk (heap_alloc_new w (BMr Me.zero NS NS)) HB2.out
  have g0 := fr_at hrs 0
  have g1 := fr_at hrs 1
  have g2 := fr_at hrs 2
  have g3 := fr_at hrs 3
  have g4 := fr_at hrs 4
  have g5 := fr_at hrs 5
  have g6 := fr_at hrs 6
  have g7 := fr_at hrs 7
  have g8 := fr_at hrs 8
  have g9 := fr_at hrs 9
  have g10 := fr_at hrs 10
  have g11 := fr_at hrs 11
  have g12 := fr_at hrs 12
  have g13 := fr_at hrs 13
  have g14 := fr_at hrs 14
  obtain ⟨c0, c1, c2, c3, c4, c5, c6, c7, c8, c9, c10, c11, c12, c13, c14⟩ := mr_of hrs
  have HG : Hid (∀ w3, w2.grownBy w3 (some w.heap.size) → Below w.heap.size w w3) := fun w3 hg => below_grown (bup (below_alloc _ _) HB2.out) hg (Nat.le_refl _) (bup (below_alloc w (BMr Me.zero NS NS)) HB2.out).size
  clear hrs
  by_cases h1 : e1 = 0
  · have h1' : (e1 != 0) = false := by simpa using h1
    have h2' : (e2 != 0) = true := by simp; exact fun h => h0 ⟨h1, h⟩
    clear h0 h1
    go_wp2
    (try simp only [Exit.inBlock, Exit.then])
    refine bodyPost_ret (v := .tuple #[VM Me.zero NS NS, .int .i64 4]) ?_ rfl (ra_no HE.out (HG.out _ (grown_trans (grown_trans (grown_trans (grown_trans (grown_trans (grown_trans (grown_trans (grown_trans (grown_trans (grown_trans (grown_trans (grown_trans (grown_trans (grown_trans (grown_set1 _ _ _ _) (grown_set1 _ _ _ _)) (grown_set1 _ _ _ _)) (grown_set1 _ _ _ _)) (grown_set1 _ _ _ _)) (grown_set1 _ _ _ _)) (grown_set1 _ _ _ _)) (grown_set1 _ _ _ _)) (grown_set1 _ _ _ _)) (grown_set1 _ _ _ _)) (grown_set1 _ _ _ _)) (grown_set1 _ _ _ _)) (grown_set1 _ _ _ _)) (grown_set1 _ _ _ _)) (grown_set1 _ _ _ _))))
    rw [results_cell_tmp rfl]
    go_simp
    exact ⟨rfl, rfl, rfl, rfl, rfl, rfl, rfl, rfl, rfl, rfl, rfl, rfl, rfl⟩
  · have h1' : (e1 != 0) = true := by simpa using h1
    clear h0 h1
    go_wp2
    (try simp only [Exit.inBlock, Exit.then])
    refine bodyPost_ret (v := .tuple #[VM Me.zero NS NS, .int .i64 4]) ?_ rfl (ra_no HE.out (HG.out _ (grown_trans (grown_trans (grown_trans (grown_trans (grown_trans (grown_trans (grown_trans (grown_trans (grown_trans (grown_trans (grown_trans (grown_trans (grown_trans (grown_trans (grown_set1 _ _ _ _) (grown_set1 _ _ _ _)) (grown_set1 _ _ _ _)) (grown_set1 _ _ _ _)) (grown_set1 _ _ _ _)) (grown_set1 _ _ _ _)) (grown_set1 _ _ _ _)) (grown_set1 _ _ _ _)) (grown_set1 _ _ _ _)) (grown_set1 _ _ _ _)) (grown_set1 _ _ _ _)) (grown_set1 _ _ _ _)) (grown_set1 _ _ _ _)) (grown_set1 _ _ _ _)) (grown_set1 _ _ _ _))))
    rw [results_cell_tmp rfl]
    go_simp
    exact ⟨rfl, rfl, rfl, rfl, rfl, rfl, rfl, rfl, rfl, rfl, rfl, rfl, rfl⟩
end Go.Proofs.YtkdhbjmpjbdobaaGreatDoor
