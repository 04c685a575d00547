/-
  sextonref11.sorted: what it answers.
-/
import Derived.Test.YtacghcoikekfeaaGreatSRef13
namespace Go.Proofs.YtacghcoikekfeaaGreat
open Go.ChangeShapes Go.WideShapes Go.ChangeAt Go.RowKit Go.Deep It
set_option maxRecDepth 100000
/-- Texts in a row. -/
def ETx : Enc ByteArray := ⟨1, fun s => [.string s], fun _ => rfl, fun x u hu => by
  simp at hu
  rcases hu with rfl
  rfl⟩
theorem infoT : (Tryz.prog.info? 9).map (fun i => (i.zero, i.size, i.bytes)) = some (some (.string ⟨#[]⟩), 1, 16) := by kernel_rfl
def Sp.ltT (a b : ByteArray) : Bool := Go.Op.bytesLess a.toList b.toList
/-- A text among others. -/
def Sp.insT (s : ByteArray) : List ByteArray → List ByteArray
  | [] => [s]
  | x :: l => if Sp.ltT s x = true then s :: x :: l else x :: Sp.insT s l
theorem at_oneT {w : World} {A : Nat} {s : ByteArray} (h : w.heap[A]? = some (.cells #[.string s] 9)) : AtW ETx w (.slice (some ⟨A, 0, none⟩) 1 1) [s] := by
  refine .inr ⟨A, 0, 1, rfl, trivial, (Array.getElem?_eq_some_iff.1 h).1, by simp, by simp, by unfold maxLen; omega, fun j u hj => ?_⟩
  have e : ETx.flat [s] = [.string s] := rfl
  rw [e] at hj
  rcases j with _ | j
  · simp at hj
    subst hj
    simp [World.cell?, h]
  · simp at hj
set_option maxHeartbeats 4000000 in
theorem rsorted_any (v : Value) (l : List ByteArray) (s : ByteArray) (w : World) (hv : AtW ETx w v l) (hl : l.length ≤ 100000) :
    Calls Tryz.prog 76 #[v, .string s] w fun e w' => ∃ u, e = .returned u ∧ Row ETx w' w.heap.size 9 u (Sp.insT s l) ∧ Below w.heap.size w w' := by
  obtain ⟨j0, hj, hy0, hy1, hy2⟩ := info_parts infoT
  have HV : Hid (AtW ETx w v l) := hv
  obtain ⟨ao, cap, rfl, -, hx⟩ := hv.open
  obtain ⟨n, hn⟩ : ∃ n, l.length = n := ⟨_, rfl⟩
  have HN : Hid (l.length = n) := hn
  have HX : Hid (∀ i x, l[i]? = some x → ∃ b off, ao = some ⟨b, off, none⟩ ∧ b < w.heap.size ∧ w.cell? ⟨b, off + i, none⟩ = some (.string x)) := fun i x hi => by
    obtain ⟨b, off, h1, -, h3, h4⟩ := hx i x hi
    have := h4 0 _ rfl
    exact ⟨b, off, h1, h3, by simpa [ETx] using this⟩
  rw [hn] at hl ⊢
  clear hv hx hn
  go_enter Tryz.func76, Tryz.ntmps76
  go_wp2
  go_loopw [5, 6, 11] (fun o p i wr => ∃ (k : Nat) (put : Bool) (pp : Option Addr) (jj q : Nat) (os : List ByteArray), k ≤ n ∧ i = .int .i64 k ∧ p = .bool put ∧ o = .slice pp jj q ∧ Hid (os ++ (if put = true then l.drop k else Sp.insT s (l.drop k)) = Sp.insT s l ∧ os.length ≤ k + 1 ∧ (put = false → os.length ≤ k)) ∧ Hid (Row ETx wr w.heap.size 9 (.slice pp jj q) os) ∧ Hid (Below w.heap.size w wr)) (fun _ _ i _ => n - (intOf i).toNat)
  case atStart => exact ⟨0, false, none, 0, 0, [], Nat.zero_le _, rfl, rfl, rfl, ⟨by simp, by simp, fun _ => by simp⟩, Row.nil _ _ _ _, Below.refl _ _⟩
  case round =>
    obtain ⟨k, put, pp, jj, q, os, hk, rfl, rfl, rfl, HO, HR, HB⟩ := hrel
    have hsz := HB.out.size
    by_cases hlt : k < n
    · obtain ⟨x, hxk⟩ : ∃ x, l[k]? = some x := ⟨_, List.getElem?_eq_getElem (by rw [HN.out]; exact hlt)⟩
      obtain ⟨b, off, rfl, hB, hc⟩ := HX.out k x hxk
      have c0 := (HB.out.cell (p := ⟨b, off + k, none⟩) hB).trans hc
      have hlt' : (k : Int) < (n : Int) := by omega
      clear hc
      have HD : Hid (l.drop k = x :: l.drop (k + 1)) := by
        show l.drop k = _
        rw [List.drop_eq_getElem_cons (by rw [HN.out]; exact hlt)]
        rw [List.getElem?_eq_getElem (by rw [HN.out]; exact hlt)] at hxk
        rw [Option.some.inj hxk]
      clear hxk
      cases put
      · cases hc : Sp.ltT s x with
        | true =>
          have HC : Hid (Sp.ltT s x = true) := hc
          have hcb : Go.Op.bytesLess s.toList x.toList = true := hc
          clear hc
          go_wp2_with (first | (at_builtin; have HO2 : Hid (AtW ETx (w7.alloc (.cells #[.string x] 9)) (.slice (some ⟨w7.heap.size, 0, none⟩) 1 1) [x]) := at_oneT (heap_alloc_new w7 _); have HR2 : Hid (Row ETx (w7.alloc (.cells #[.string x] 9)) w.heap.size 9 (.slice p7 n7 c7) (os ++ [s])) := (HEND1.out.1).up ((Below.refl _ _).alloc (Nat.le_refl _) _); have HB2 : Hid (Below w.heap.size w (w7.alloc (.cells #[.string x] 9))) := (HEND1.out.2).alloc HEND1.out.2.size _; refine wpList_row _ rfl _ _ 28 rfl ETx (fun _ => True) w.heap.size 9 j0 _ 16 Tryz.underlying28 hj hy0 hy1 hy2 rfl _ (os ++ [s]) rfl HR2.out _ [x] rfl HO2.out (by have := HO.out.2.1; unfold maxLen; simp only [List.length_cons, List.length_nil, List.length_append]; omega) (by have := HO.out.2.1; simp only [List.length_cons, List.length_nil, List.length_append]; omega) (by have := HEND1.out.2.size; simp; omega) ?_; intro v8 w8 hrow8 hg8 hloc8; have HEND2 : Hid (Row ETx w8 w.heap.size 9 v8 (os ++ [s] ++ [x]) ∧ Below w.heap.size w w8) := ⟨hrow8, HB2.out.grown hg8 (by have := HEND1.out.2.size; simp; omega) (fun k hk => (HR2.out.lt k hk).1)⟩; clear hrow8 hg8 hloc8; obtain ⟨p8, n8, c8, rfl⟩ := HEND2.out.1.slice3) | (at_builtin; have HO1 : Hid (AtW ETx (wr.alloc (.cells #[.string s] 9)) (.slice (some ⟨wr.heap.size, 0, none⟩) 1 1) [s]) := at_oneT (heap_alloc_new wr _); have HR1 : Hid (Row ETx (wr.alloc (.cells #[.string s] 9)) w.heap.size 9 (.slice pp jj q) (os)) := (HR.out).up ((Below.refl _ _).alloc (Nat.le_refl _) _); have HB1 : Hid (Below w.heap.size w (wr.alloc (.cells #[.string s] 9))) := (HB.out).alloc hsz _; refine wpList_row _ rfl _ _ 28 rfl ETx (fun _ => True) w.heap.size 9 j0 _ 16 Tryz.underlying28 hj hy0 hy1 hy2 rfl _ (os) rfl HR1.out _ [s] rfl HO1.out (by have := HO.out.2.1; unfold maxLen; simp only [List.length_cons, List.length_nil]; omega) (by have := HO.out.2.1; simp only [List.length_cons, List.length_nil]; omega) (by have := hsz; simp; omega) ?_; intro v7 w7 hrow7 hg7 hloc7; have HEND1 : Hid (Row ETx w7 w.heap.size 9 v7 (os ++ [s]) ∧ Below w.heap.size w w7) := ⟨hrow7, HB1.out.grown hg7 (by have := hsz; simp; omega) (fun k hk => (HR1.out.lt k hk).1)⟩; clear hrow7 hg7 hloc7; obtain ⟨p7, n7, c7, rfl⟩ := HEND1.out.1.slice3))
          go_roundw
          case rel => exact ⟨k + 1, true, p8, n8, c8, os ++ [s] ++ [x], by omega, by go_num, rfl, rfl, ⟨by have h := HO.out.1; rw [HD.out] at h; simp only [Sp.insT, HC.out] at h; simpa using h, by have := HO.out.2.2 rfl; simp; omega, fun h => by cases h⟩, HEND2.out.1, HEND2.out.2⟩
          case measure => simp [intOf]; omega
        | false =>
          have HC : Hid (Sp.ltT s x = false) := hc
          have hcb : Go.Op.bytesLess s.toList x.toList = false := hc
          clear hc
          go_wp2_with (at_builtin; have HO1 : Hid (AtW ETx (wr.alloc (.cells #[.string x] 9)) (.slice (some ⟨wr.heap.size, 0, none⟩) 1 1) [x]) := at_oneT (heap_alloc_new wr _); have HR1 : Hid (Row ETx (wr.alloc (.cells #[.string x] 9)) w.heap.size 9 (.slice pp jj q) (os)) := (HR.out).up ((Below.refl _ _).alloc (Nat.le_refl _) _); have HB1 : Hid (Below w.heap.size w (wr.alloc (.cells #[.string x] 9))) := (HB.out).alloc hsz _; refine wpList_row _ rfl _ _ 28 rfl ETx (fun _ => True) w.heap.size 9 j0 _ 16 Tryz.underlying28 hj hy0 hy1 hy2 rfl _ (os) rfl HR1.out _ [x] rfl HO1.out (by have := HO.out.2.1; unfold maxLen; simp only [List.length_cons, List.length_nil]; omega) (by have := HO.out.2.1; simp only [List.length_cons, List.length_nil]; omega) (by have := hsz; simp; omega) ?_; intro v7 w7 hrow7 hg7 hloc7; have HEND1 : Hid (Row ETx w7 w.heap.size 9 v7 (os ++ [x]) ∧ Below w.heap.size w w7) := ⟨hrow7, HB1.out.grown hg7 (by have := hsz; simp; omega) (fun k hk => (HR1.out.lt k hk).1)⟩; clear hrow7 hg7 hloc7; obtain ⟨p7, n7, c7, rfl⟩ := HEND1.out.1.slice3)
          go_roundw
          case rel => exact ⟨k + 1, false, p7, n7, c7, os ++ [x], by omega, by go_num, rfl, rfl, ⟨by have h := HO.out.1; rw [HD.out] at h; simp only [Sp.insT, HC.out] at h; simpa using h, by have := HO.out.2.1; simp; omega, fun _ => by have := HO.out.2.2 rfl; simp; omega⟩, HEND1.out.1, HEND1.out.2⟩
          case measure => simp [intOf]; omega
      · go_wp2_with (at_builtin; have HO1 : Hid (AtW ETx (wr.alloc (.cells #[.string x] 9)) (.slice (some ⟨wr.heap.size, 0, none⟩) 1 1) [x]) := at_oneT (heap_alloc_new wr _); have HR1 : Hid (Row ETx (wr.alloc (.cells #[.string x] 9)) w.heap.size 9 (.slice pp jj q) (os)) := (HR.out).up ((Below.refl _ _).alloc (Nat.le_refl _) _); have HB1 : Hid (Below w.heap.size w (wr.alloc (.cells #[.string x] 9))) := (HB.out).alloc hsz _; refine wpList_row _ rfl _ _ 28 rfl ETx (fun _ => True) w.heap.size 9 j0 _ 16 Tryz.underlying28 hj hy0 hy1 hy2 rfl _ (os) rfl HR1.out _ [x] rfl HO1.out (by have := HO.out.2.1; unfold maxLen; simp only [List.length_cons, List.length_nil]; omega) (by have := HO.out.2.1; simp only [List.length_cons, List.length_nil]; omega) (by have := hsz; simp; omega) ?_; intro v7 w7 hrow7 hg7 hloc7; have HEND1 : Hid (Row ETx w7 w.heap.size 9 v7 (os ++ [x]) ∧ Below w.heap.size w w7) := ⟨hrow7, HB1.out.grown hg7 (by have := hsz; simp; omega) (fun k hk => (HR1.out.lt k hk).1)⟩; clear hrow7 hg7 hloc7; obtain ⟨p7, n7, c7, rfl⟩ := HEND1.out.1.slice3)
        go_roundw
        case rel => exact ⟨k + 1, true, p7, n7, c7, os ++ [x], by omega, by go_num, rfl, rfl, ⟨by have h := HO.out.1; rw [HD.out] at h; simpa using h, by have := HO.out.2.1; simp; omega, fun h => by cases h⟩, HEND1.out.1, HEND1.out.2⟩
        case measure => simp [intOf]; omega
    · have HD : Hid (l.drop k = []) := List.drop_of_length_le (by rw [HN.out]; omega)
      cases put
      · clear HX
        go_wp2_with (at_builtin; have HO1 : Hid (AtW ETx (wr.alloc (.cells #[.string s] 9)) (.slice (some ⟨wr.heap.size, 0, none⟩) 1 1) [s]) := at_oneT (heap_alloc_new wr _); have HR1 : Hid (Row ETx (wr.alloc (.cells #[.string s] 9)) w.heap.size 9 (.slice pp jj q) (os)) := (HR.out).up ((Below.refl _ _).alloc (Nat.le_refl _) _); have HB1 : Hid (Below w.heap.size w (wr.alloc (.cells #[.string s] 9))) := (HB.out).alloc hsz _; refine wpList_row _ rfl _ _ 28 rfl ETx (fun _ => True) w.heap.size 9 j0 _ 16 Tryz.underlying28 hj hy0 hy1 hy2 rfl _ (os) rfl HR1.out _ [s] rfl HO1.out (by have := HO.out.2.1; unfold maxLen; simp only [List.length_cons, List.length_nil]; omega) (by have := HO.out.2.1; simp only [List.length_cons, List.length_nil]; omega) (by have := hsz; simp; omega) ?_; intro v7 w7 hrow7 hg7 hloc7; have HEND1 : Hid (Row ETx w7 w.heap.size 9 v7 (os ++ [s]) ∧ Below w.heap.size w w7) := ⟨hrow7, HB1.out.grown hg7 (by have := hsz; simp; omega) (fun k hk => (HR1.out.lt k hk).1)⟩; clear hrow7 hg7 hloc7; obtain ⟨p7, n7, c7, rfl⟩ := HEND1.out.1.slice3)
        go_ret
        have h := HO.out.1
        rw [HD.out] at h
        exact ⟨_, rfl, by rw [← h]; exact HEND1.out.1, HEND1.out.2⟩
      · go_wp2
        go_ret
        have h := HO.out.1
        rw [HD.out] at h
        exact ⟨_, rfl, by rw [← h]; simpa using HR.out, HB.out⟩
end Go.Proofs.YtacghcoikekfeaaGreat
