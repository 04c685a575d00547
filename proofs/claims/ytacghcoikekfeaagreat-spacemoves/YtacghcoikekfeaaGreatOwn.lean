/-
  itab's own: an inode whose lists are new.
-/
import Derived.Test.YtacghcoikekfeaaGreatRefuse
import Derived.Laws.ResultCell
namespace Go.Proofs.YtacghcoikekfeaaGreat
open Go.ChangeShapes Go.WideShapes Go.ChangeAt Go.RowKit Go.Deep It
set_option maxRecDepth 100000

theorem infoR : (Tryz.prog.info? 132).map (fun i => (i.zero, i.size, i.bytes)) = some (some (.agg #[.int .i64 0, .string ⟨#[]⟩]), 2, 24) := by kernel_rfl
theorem infoE : (Tryz.prog.info? 69).map (fun i => (i.zero, i.size, i.bytes)) = some (some (.agg #[.string ⟨#[]⟩, .int .i64 0, .int .i64 0, .int .i64 0]), 4, 40) := by kernel_rfl
theorem infoI : (Tryz.prog.info? 65).map (fun i => (i.zero, i.size, i.bytes)) = some (some (.agg #[.int .i64 0, .int .i64 0, .int .i64 0, .int .i64 0, .int .i64 0, .slice none 0 0, .slice none 0 0, .int .i64 0]), 8, 96) := by kernel_rfl
theorem results_cell1 {fn : Func} {p : Tmp} {ty : TypeId} (h : fn.results = #[.cell p ty]) (tmps : Array Value) (P : Program) (w : World) :
    (results fn tmps).run P w = ((asAddr (tmps.getD p undef)).run P w).andThen fun a w₁ => (loadVar ty a).run P w₁ := by
  simp only [results, h]
  simp [Sem.run_bind, Result.andThen]
theorem results_tct {fn : Func} {p t u : Tmp} {ty : TypeId} (h : fn.results = #[.tmp t, .cell p ty, .tmp u]) (tmps : Array Value) (P : Program) (w : World) :
    (results fn tmps).run P w = ((asAddr (tmps.getD p undef)).run P w).andThen fun a w₁ => ((loadVar ty a).run P w₁).andThen fun v w₂ => .ok (.tuple #[tmps.getD t undef, v, tmps.getD u undef]) w₂ := by
  simp only [results, h]
  simp [Sem.run_bind, Result.andThen]
theorem At.setCell {α : Type} {E : Enc α} {S : Nat → Prop} {w : World} {v : Value} {l : List α} (h : At E S w v l) {p : Addr} (hp : ¬ S p.block) (u : Value) : At E S (w.setCell p u) v l :=
  h.keep (by simp [World.setCell]) fun b hS _ => ⟨Below.heap_setCell _ _ _ _ (fun e => hp (e ▸ hS)), hS⟩
theorem At.setRow {α : Type} {E : Enc α} {S : Nat → Prop} {w : World} {v : Value} {l : List α} (h : At E S w v l) {g : Nat} (hp : ¬ S g) (u : Array Value) : At E S (w.setRow g u) v l :=
  h.keep (by simp [World.setRow]) fun b hS _ => ⟨setRow_other w g b u (fun e => hp (e ▸ hS)), hS⟩
abbrev B8 (a b c d e : Int) (x y : Value) (f : Int) : Obj := .cells #[.int .i64 a, .int .i64 b, .int .i64 c, .int .i64 d, .int .i64 e, x, y, .int .i64 f] 65
abbrev BZ : Obj := B8 0 0 0 0 0 (.slice none 0 0) (.slice none 0 0) 0
theorem eight_of {w : World} {A : Nat} {a b c d e f : Int} {x y : Value} (h : w.heap[A]? = some (B8 a b c d e x y f)) :
    (w.cell? ⟨A, 0, none⟩ = some (.int .i64 a) ∧ w.cell? ⟨A, 1, none⟩ = some (.int .i64 b) ∧ w.cell? ⟨A, 2, none⟩ = some (.int .i64 c) ∧ w.cell? ⟨A, 3, none⟩ = some (.int .i64 d) ∧ w.cell? ⟨A, 4, none⟩ = some (.int .i64 e) ∧ w.cell? ⟨A, 5, none⟩ = some x ∧ w.cell? ⟨A, 6, none⟩ = some y ∧ w.cell? ⟨A, 7, none⟩ = some (.int .i64 f)) ∧ ∀ j, w.frozen? ⟨A, j, none⟩ = false := by
  refine ⟨⟨?_, ?_, ?_, ?_, ?_, ?_, ?_, ?_⟩, fun j => ?_⟩ <;> simp [World.cell?, World.frozen?, h]
theorem set5 {w : World} {A : Nat} {a b c d e f : Int} {x y : Value} (h : w.heap[A]? = some (B8 a b c d e x y f)) (u : Value) : (w.setCell ⟨A, 5, none⟩ u).heap[A]? = some (B8 a b c d e u y f) := by
  rw [setCell_eq_setRow w A 5 _ _ _ u h, setRow_heap w A _ _ _ _ h]
  rfl
theorem set6 {w : World} {A : Nat} {a b c d e f : Int} {x y : Value} (h : w.heap[A]? = some (B8 a b c d e x y f)) (u : Value) : (w.setCell ⟨A, 6, none⟩ u).heap[A]? = some (B8 a b c d e x u f) := by
  rw [setCell_eq_setRow w A 6 _ _ _ u h, setRow_heap w A _ _ _ _ h]
  rfl
theorem below_setCell {B : Nat} {w w' : World} (h : Below B w w') {p : Addr} (hp : B ≤ p.block) (u : Value) : Below B w (w'.setCell p u) := h.setCell hp u

theorem own_one {w w7 : World} {g k l s t nx : Int} {rp ep : Option Addr} {rn rc en ec : Nat} {rs : List (Int × ByteArray)} {es : List (ByteArray × Int × Int × Int)} {v7 : Value}
    (hrow : Row ER w7 (w.heap.size + 2) 132 v7 ([] ++ rs)) (hg7 : ((w.alloc (B8 g k l s t (.slice rp rn rc) (.slice ep en ec) nx)).alloc BZ).grownBy w7 none)
    (hAW : ((w.alloc (B8 g k l s t (.slice rp rn rc) (.slice ep en ec) nx)).alloc BZ).heap[w.heap.size]? = some (B8 g k l s t (.slice rp rn rc) (.slice ep en ec) nx) ∧ ((w.alloc (B8 g k l s t (.slice rp rn rc) (.slice ep en ec) nx)).alloc BZ).heap[w.heap.size + 1]? = some BZ)
    (hB : Below w.heap.size w ((w.alloc (B8 g k l s t (.slice rp rn rc) (.slice ep en ec) nx)).alloc BZ)) (hE : At EE (fun b => b < w.heap.size) ((w.alloc (B8 g k l s t (.slice rp rn rc) (.slice ep en ec) nx)).alloc BZ) (.slice ep en ec) es) :
    ∃ pu cu, v7 = .slice pu rs.length cu ∧ Hid (w7.heap[w.heap.size]? = some (B8 g k l s t (.slice rp rn rc) (.slice ep en ec) nx) ∧ w7.heap[w.heap.size + 1]? = some BZ) ∧ Hid (Below w.heap.size w w7) ∧
      Hid (At EE (fun b => b < w.heap.size) (w7.setCell ⟨w.heap.size, 5, none⟩ (.slice pu rs.length cu)) (.slice ep en ec) es) ∧ w.heap.size + 2 ≤ w7.heap.size ∧ Hid (Row ER w7 (w.heap.size + 2) 132 (.slice pu rs.length cu) rs) := by
  rw [List.nil_append] at hrow
  obtain ⟨pu, cu, rfl⟩ := hrow.slice
  exact ⟨pu, cu, rfl, ⟨(hg7.block _ (by simp; omega) (by simp)).trans hAW.1, (hg7.block _ (by simp) (by simp)).trans hAW.2⟩, hB.trans (below_none hg7 (by simp; omega)),
    (hE.grown hg7 (by simp)).setCell (by simp) _, by have := hg7.size; simp at this; omega, hrow⟩
theorem own_two {w w7 w8 : World} {g k l s t nx : Int} {rp ep : Option Addr} {rn rc en ec : Nat} {rs : List (Int × ByteArray)} {es : List (ByteArray × Int × Int × Int)} {u v8 : Value}
    (hrow : Row EE w8 (w.heap.size + 2) 69 v8 ([] ++ es)) (hg8 : (w7.setCell ⟨w.heap.size, 5, none⟩ u).grownBy w8 none)
    (hH : w7.heap[w.heap.size]? = some (B8 g k l s t (.slice rp rn rc) (.slice ep en ec) nx) ∧ w7.heap[w.heap.size + 1]? = some BZ) (hB : Below w.heap.size w w7) (hR : Row ER w7 (w.heap.size + 2) 132 u rs) (hs : w.heap.size + 2 ≤ w7.heap.size) :
    ∃ pe ce, v8 = .slice pe es.length ce ∧ Hid (w8.heap[w.heap.size]? = some (B8 g k l s t u (.slice ep en ec) nx) ∧ w8.heap[w.heap.size + 1]? = some BZ) ∧ Hid (Below w.heap.size w w8) ∧
      Hid (At ER (fun b => w.heap.size + 2 ≤ b) w8 u rs) ∧ Hid (At EE (fun b => w.heap.size + 2 ≤ b) w8 (.slice pe es.length ce) es) ∧ Hid ((w8.setCell ⟨w.heap.size, 6, none⟩ (.slice pe es.length ce)).heap[w.heap.size + 1]? = some BZ) := by
  rw [List.nil_append] at hrow
  obtain ⟨pe, ce, rfl⟩ := hrow.slice
  have hsz : (w7.setCell ⟨w.heap.size, 5, none⟩ u).heap.size = w7.heap.size := by simp [World.setCell]
  have h1 : w8.heap[w.heap.size + 1]? = some BZ := (hg8.block _ (by omega) (by simp)).trans ((Below.heap_setCell _ _ _ _ (by simp)).trans hH.2)
  exact ⟨pe, ce, rfl, ⟨(hg8.block _ (by omega) (by simp)).trans (set5 hH.1 _), h1⟩, (hB.setCell (p := ⟨w.heap.size, 5, none⟩) (Nat.le_refl _) _).trans (below_none hg8 (by omega)),
    (hR.at.setCell (by simp) _).grown hg8 (by simp), hrow.at, (Below.heap_setCell _ _ _ _ (by simp)).trans h1⟩
set_option maxHeartbeats 2000000 in
set_option maxRecDepth 100000 in
theorem own_any {S : Nat → Prop} (x : Rw) (w : World) (h : Good S w x) :
    Calls Tryz.prog 119 #[VI x] w fun e w' => ∃ x' : Rw, e = .returned (VI x') ∧ x'.i = x.i ∧ Good (fun b => w.heap.size ≤ b) w' x' ∧ Below w.heap.size w w' := by
  obtain ⟨i0, hi, hz0, hz1, hz2⟩ := info_parts infoR
  obtain ⟨j0, hj, hy0, hy1, hy2⟩ := info_parts infoE
  obtain ⟨hr, he, ho⟩ := h
  have HO : Hid (okI x.i) := ho
  obtain ⟨A, hA⟩ : ∃ A, A = w.heap.size := ⟨_, rfl⟩
  have hr0 : At ER (fun b => b < A) w (.slice x.rp x.rn x.rc) x.i.runs := hr.imp fun b _ hb => by omega
  have he0 : At EE (fun b => b < A) w (.slice x.ep x.en x.ec) x.i.ents := he.imp fun b _ hb => by omega
  obtain ⟨⟨g, k, l, s, t, rs, es, nx⟩, rp, rn, rc, ep, en, ec⟩ := x
  simp only at HO hr0 he0 ⊢
  subst hA
  have HB : Hid (Below w.heap.size w ((w.alloc (B8 g k l s t (.slice rp rn rc) (.slice ep en ec) nx)).alloc BZ)) := ((Below.refl _ w).alloc (Nat.le_refl _) _).alloc (by simp) _
  have HAW : Hid (((w.alloc (B8 g k l s t (.slice rp rn rc) (.slice ep en ec) nx)).alloc BZ).heap[w.heap.size]? = some (B8 g k l s t (.slice rp rn rc) (.slice ep en ec) nx) ∧ ((w.alloc (B8 g k l s t (.slice rp rn rc) (.slice ep en ec) nx)).alloc BZ).heap[w.heap.size + 1]? = some BZ) := by
    refine ⟨?_, ?_⟩
    · rw [Below.heap_alloc _ _ _ (by simp)]
      exact heap_alloc_new _ _
    · have := heap_alloc_new (w.alloc (B8 g k l s t (.slice rp rn rc) (.slice ep en ec) nx)) BZ
      rwa [show (w.alloc (B8 g k l s t (.slice rp rn rc) (.slice ep en ec) nx)).heap.size = w.heap.size + 1 by simp] at this
  have HR : Hid (At ER (fun b => b < w.heap.size) ((w.alloc (B8 g k l s t (.slice rp rn rc) (.slice ep en ec) nx)).alloc BZ) (.slice rp rn rc) rs) := hr0.up HB.out
  have HE : Hid (At EE (fun b => b < w.heap.size) ((w.alloc (B8 g k l s t (.slice rp rn rc) (.slice ep en ec) nx)).alloc BZ) (.slice ep en ec) es) := he0.up HB.out
  clear hr he ho hr0 he0
  go_enter Tryz.func119, Tryz.ntmps119
  go_wp2_with (first
    | (at_builtin
       refine wpList_row _ rfl _ _ 62 rfl ER (fun b => b < w.heap.size) (w.heap.size + 2) 132 i0 (.agg #[.int .i64 0, .string ⟨#[]⟩]) 24 Tryz.underlying62 hi hz0 hz1 hz2 rfl _ [] rfl (Row.nil _ _ _ _) _ rs rfl HR.out (by have := HO.out.2.1; simp only at this; unfold maxLen; simp; omega) (by have := HO.out.2.1; simp only at this; simp; omega) (by simp) ?_
       intro v7 w7 hrow7 hg7 hmv7
       obtain ⟨pu, cu, rfl, HH7, HB7, HE8, hs7, HR7⟩ := own_one hrow7 hg7 HAW.out HB.out HE.out
       clear hrow7 hg7 hmv7 HR HE HB HAW
       obtain ⟨q0, q1, q2, q3, q4, q5, q6, q7⟩ := (eight_of HH7.out.1).1
       have qf := (eight_of HH7.out.1).2 5)
    | (at_builtin
       refine wpList_row _ rfl _ _ 63 rfl EE (fun b => b < w.heap.size) (w.heap.size + 2) 69 j0 (.agg #[.string ⟨#[]⟩, .int .i64 0, .int .i64 0, .int .i64 0]) 40 Tryz.underlying63 hj hy0 hy1 hy2 rfl _ [] rfl (Row.nil _ _ _ _) _ es rfl HE8.out (by have := HO.out.2.2; simp only at this; unfold maxLen; simp; omega) (by have := HO.out.2.2; simp only at this; simp; omega) (by simp; omega) ?_
       intro v8 w8 hrow8 hg8 hmv8
       obtain ⟨pe, ce, rfl, HH8, HB8, HR8, HE9, HH9⟩ := own_two hrow8 hg8 HH7.out HB7.out HR7.out hs7
       clear hrow8 hg8 hmv8 HR7 HE8 HB7 hs7 q0 q1 q2 q3 q4 q5 q6 q7 qf
       obtain ⟨q0, q1, q2, q3, q4, q5, q6, q7⟩ := (eight_of HH8.out.1).1
       have qf := (eight_of HH8.out.1).2 6
       obtain ⟨z0, z1, z2, z3, z4, z5, z6, z7⟩ := (eight_of HH8.out.2).1
       have zf := (eight_of HH8.out.2).2))
  (try simp only [Exit.inBlock, Exit.then])
  refine bodyPost_ret (v := .agg #[.int .i64 g, .int .i64 k, .int .i64 l, .int .i64 s, .int .i64 t, .slice pu rs.length cu, .slice pe es.length ce, .int .i64 nx]) ?_ rfl ⟨⟨⟨g, k, l, s, t, rs, es, nx⟩, pu, rs.length, cu, pe, es.length, ce⟩, rfl, rfl, ⟨?_, ?_, HO.out⟩, ?_⟩
  · rw [results_cell1 rfl]
    go_simp
  · refine At.imp (S := fun b => w.heap.size + 2 ≤ b) ?_ (fun b hb _ => by omega)
    repeat (refine At.setCell ?_ (by simp) _)
    exact HR8.out
  · refine At.imp (S := fun b => w.heap.size + 2 ≤ b) ?_ (fun b hb _ => by omega)
    repeat (refine At.setCell ?_ (by simp) _)
    exact HE9.out
  · repeat (refine Below.setCell ?_ (by simp) _)
    exact HB8.out
end Go.Proofs.YtacghcoikekfeaaGreat
