/-
  sextonref11.Paths: what it answers.
-/
import Derived.Test.YtacghcoikekfeaaGreatRBe
import Derived.Test.YtacghcoikekfeaaGreatSIns
namespace Go.Proofs.YtacghcoikekfeaaGreat
open Go.ChangeShapes Go.WideShapes Go.ChangeAt Go.RowKit Go.Deep It
set_option maxRecDepth 100000
namespace Sp
/-- The ways of a folder's entries. -/
def ways (L : List Ino) (z : Nat × ByteArray) : List ByteArray := (entsAt L z.1).map fun e => way z.2 e.1
theorem insT_perm (s : ByteArray) : ∀ l : List ByteArray, (insT s l).Perm (s :: l)
  | [] => .refl _
  | x :: l => by
    unfold insT
    split
    · exact .refl _
    · exact ((insT_perm s l).cons x).trans (.swap _ _ _)
theorem fold_perm {L : List Ino} {f : Nat} {path : ByteArray} (h : ∀ o e, (belowE L f path o e).Perm (o ++ way path e.1 :: (step L f path e).flatMap (ways L))) : ∀ (es : List En) (o : List ByteArray), (es.foldl (belowE L f path) o).Perm (o ++ (es.map (fun e => way path e.1) ++ es.flatMap fun e => (step L f path e).flatMap (ways L)))
  | [], o => by simp
  | e :: es, o => by
    rw [List.foldl_cons, List.map_cons, List.flatMap_cons]
    refine (fold_perm h es _).trans ?_
    refine ((h o e).append_right _).trans ?_
    rw [List.append_assoc, List.cons_append, List.cons_append]
    refine (List.Perm.cons _ ?_).append_left o
    rw [← List.append_assoc, ← List.append_assoc]
    exact (List.perm_append_comm).append_right _
theorem below_perm (L : List Ino) : ∀ (f no : Nat) (path : ByteArray) (out : List ByteArray), (below L f no path out).Perm (out ++ (walk L f no path).flatMap (ways L))
  | 0, _, _, out => by simp [below, walk]
  | f + 1, no, path, out => by
    rw [below_succ, walk_succ, List.flatMap_cons, List.flatMap_assoc]
    refine fold_perm (fun o e => ?_) _ _
    unfold belowE
    split
    · rename_i hd
      rw [step_dir hd]
      refine (below_perm L f _ _ _).trans ?_
      refine ((insT_perm _ _).append_right _).trans ?_
      rw [List.cons_append]
      exact List.perm_middle.symm
    · rename_i hd
      rw [step_file (by simpa using hd)]
      refine (insT_perm _ _).trans ?_
      simp only [List.flatMap_nil]
      exact (List.perm_append_comm (l₁ := [way path e.1]) (l₂ := o))
theorem flat_len {α β : Type} {f : α → List β} {B : Nat} : ∀ l : List α, (∀ x ∈ l, (f x).length ≤ B) → (l.flatMap f).length ≤ l.length * B
  | [], _ => by simp
  | x :: l, h => by
    rw [List.flatMap_cons, List.length_append, List.length_cons, Nat.succ_mul]
    have h1 := h x (by simp)
    have h2 := flat_len l fun y hy => h y (List.mem_cons_of_mem _ hy)
    omega
theorem ways_few {L : List Ino} (h : isSp L = true) : ((walk L 24 0 ⟨#[]⟩).flatMap (ways L)).length ≤ 36864 := by
  have ht := isSp_tree h
  have h1 := walk_len ht 24 ⟨#[]⟩
  have h2 : (dirs L).length ≤ 24 := by
    unfold dirs
    have := List.length_filter_le (dirAt L) (List.range L.length)
    rw [List.length_range] at this
    have := (right_len (isSp_iff.1 h).1).2
    omega
  have h3 := flat_len (f := ways L) (B := 1536) (walk L 24 0 ⟨#[]⟩) (fun z _ => by
    unfold ways
    rw [List.length_map]
    unfold entsAt
    split
    · rename_i x hx
      exact (isSp_means L (by unfold chk; rw [if_pos h])).2.2.1 x (List.mem_of_getElem? hx)
    · simp)
  have : (walk L 24 0 ⟨#[]⟩).length * 1536 ≤ 24 * 1536 := Nat.mul_le_mul_right _ (by omega)
  omega
/-- The paths, as the reference has them. -/
noncomputable def pathsR (L : List Ino) : List ByteArray := if isSp L = true then ⟨#[47]⟩ :: below L 24 0 ⟨#[]⟩ [] else []
theorem below_few {L : List Ino} (h : isSp L = true) : (below L 24 0 ⟨#[]⟩ []).length ≤ 36864 := by
  rw [(below_perm L 24 0 ⟨#[]⟩ []).length_eq, List.nil_append]
  exact ways_few h
end Sp
theorem nilT {w : World} : AtW ETx w (.slice none 0 0) [] := .inl ⟨_, _, rfl, rfl⟩
theorem row_oneT {w : World} {A : Nat} {s : ByteArray} (h : w.heap[A]? = some (.cells #[.string s] 9)) : Row ETx w A 9 (.slice (some ⟨A, 0, none⟩) 1 1) [s] := by
  refine .inr ⟨A, 1, #[.string s], rfl, Nat.le_refl _, h, by simp, by unfold maxLen; omega, by simp [ETx], ?_⟩
  rfl
set_option maxHeartbeats 4000000 in
theorem rpaths_any {S : Nat → Prop} (v : Value) (L : List Rw) (w : World) (hv : TabAt S w v L) (hok : Sp.okN L) :
    Calls Tryz.prog 14 #[v] w fun e w' => ∃ u, e = .returned u ∧ AtW ETx w' u (Sp.pathsR (pl L)) ∧ Below w.heap.size w w' := by
  obtain ⟨j0, hj, hy0, hy1, hy2⟩ := info_parts infoT
  have HV : Hid (TabAt S w v L) := hv
  have HOK : Hid (Sp.okN L) := hok
  obtain ⟨ao, cap, rfl, -, -⟩ := hv.open
  obtain ⟨n, hn⟩ : ∃ n, L.length = n := ⟨_, rfl⟩
  have HN : Hid (L.length = n) := hn
  rw [hn] at HV ⊢
  clear hv hok hn
  cases hs : Sp.isSp (pl L) with
  | false =>
    have HS : Hid (Sp.isSp (pl L) = false) := hs
    have HP : Hid (Sp.pathsR (pl L) = []) := by show _ = _; unfold Sp.pathsR; rw [hs]; rfl
    rw [HP.out]
    clear hs
    go_enter Tryz.func14, Tryz.ntmps14
    go_wp2_with fail
    refine (rspace_any S _ L _ HV.out HOK.out).mono ?_
    rintro e w1 ⟨rfl, hb1⟩
    rw [HS.out]
    have HB1 : Hid (Below w.heap.size w w1) := hb1
    clear hb1
    go_wp2
    go_ret
    exact ⟨_, rfl, nilT, HB1.out⟩
  | true =>
    have HS : Hid (Sp.isSp (pl L) = true) := hs
    have HP : Hid (Sp.pathsR (pl L) = ⟨#[47]⟩ :: Sp.below (pl L) 24 0 ⟨#[]⟩ []) := by show _ = _; unfold Sp.pathsR; rw [if_pos hs]
    rw [HP.out]
    have HF : Hid ((Sp.below (pl L) 24 0 ⟨#[]⟩ []).length ≤ 36864) := Sp.below_few hs
    have hr := (Sp.isSp_iff.1 hs).1
    have hn24 : n ≤ 24 := by rw [← HN.out]; have := (Sp.right_len hr).2; rw [List.length_map] at this; exact this
    have HD : Hid (Sp.deep (pl L) 24 0) := Sp.isSp_deep hs (by have := (Sp.right_len hr).1; omega)
    obtain ⟨bl, hbl⟩ : ∃ bl, Sp.below (pl L) 24 0 ⟨#[]⟩ [] = bl := ⟨_, rfl⟩
    have HBL : Hid (Sp.below (pl L) 24 0 ⟨#[]⟩ [] = bl) := hbl
    rw [hbl] at HF ⊢
    clear hs hr hbl
    go_enter Tryz.func14, Tryz.ntmps14
    go_wp2_with fail
    refine (rspace_any S _ L _ HV.out HOK.out).mono ?_
    rintro e w1 ⟨rfl, hb1⟩
    rw [HS.out]
    have HB1 : Hid (Below w.heap.size w w1) := hb1
    clear hb1
    obtain ⟨W1, hW1⟩ : ∃ W1, W1 = w1.alloc (.cells #[.string ⟨#[47]⟩] 9) := ⟨_, rfl⟩
    have HBW : Hid (Below w.heap.size w W1) := by show Below _ _ _; rw [hW1]; exact HB1.out.alloc HB1.out.size _
    have HX1 : Hid (W1.heap[w1.heap.size]? = some (.cells #[.string ⟨#[47]⟩] 9)) := by show W1.heap[w1.heap.size]? = _; rw [hW1]; exact heap_alloc_new _ _
    have hl1 : w1.heap.size < W1.heap.size := by rw [hW1]; simp
    go_wp2_with fail
    rw [← hW1]
    clear hW1
    refine (rbelow_any L ao n cap HN.out (by omega) 24 0 ⟨#[]⟩ [] (.slice none 0 0) _ HD.out (by decide) (HV.out.up HBW.out) nilT (by rw [HBL.out]; have := HF.out; omega)).mono ?_
    rintro e w2 ⟨u2, rfl, ho2, hb2⟩
    rw [HBL.out] at ho2
    have HB2 : Hid (Below w.heap.size w w2) := HBW.out.trans (hb2.mono HBW.out.size)
    have HR2 : Hid (Row ETx w2 w1.heap.size 9 (.slice (some ⟨w1.heap.size, 0, none⟩) 1 1) [⟨#[47]⟩]) := row_oneT ((hb2.block _ hl1).trans HX1.out)
    have HO2 : Hid (AtW ETx w2 u2 bl) := ho2
    have hs2 : w1.heap.size ≤ w2.heap.size := Nat.le_trans (Nat.le_of_lt hl1) hb2.size
    obtain ⟨p2, c2, rfl, -, -⟩ := ho2.open
    have hw1 := HB1.out.size
    clear ho2 hb2
    go_wp2_with (at_builtin; refine wpList_row _ rfl _ _ 28 rfl ETx (fun _ => True) w1.heap.size 9 j0 _ 16 Tryz.underlying28 hj hy0 hy1 hy2 rfl _ [⟨#[47]⟩] rfl HR2.out _ bl rfl HO2.out (by have := HF.out; unfold maxLen; simp only [List.length_cons, List.length_nil]; omega) (by have := HF.out; simp only [List.length_cons, List.length_nil]; omega) hs2 ?_; intro v7 w7 hrow7 hg7 hloc7; have HEND : Hid (Row ETx w7 w1.heap.size 9 v7 ([⟨#[47]⟩] ++ bl) ∧ Below w.heap.size w w7) := ⟨hrow7, HB2.out.grown hg7 HB2.out.size (fun k hk => Nat.le_trans hw1 (HR2.out.lt k hk).1)⟩; clear hrow7 hg7 hloc7)
    go_ret
    exact ⟨_, rfl, HEND.out.1.at.wide, HEND.out.2⟩
end Go.Proofs.YtacghcoikekfeaaGreat
