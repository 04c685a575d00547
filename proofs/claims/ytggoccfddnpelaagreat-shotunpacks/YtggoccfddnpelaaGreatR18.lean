/- NLaw, ZIno, NName, as one. -/
import Derived.Test.YtggoccfddnpelaaGreatR17
namespace Go.Proofs.YtggoccfddnpelaaGreat
open Go
set_option maxRecDepth 100000
namespace Fst
section
variable {P:Program} {ops:Array Oper} {Q:Exit->Act->World->Prop} {md:Region.Mode} {S:World->Prop} {late:Nat->Bool}
/-- A late operation has come up, or the world meets S. -/
def Sl (late:Nat->Bool) (S:World->Prop) (l:Array Bool) (w:World):Prop:=(∃ k,late k = true/\l.getD k false = true)∨S w
/-- Whatever order is picked from here on; S holds behind each operation till a late one has come up. -/
def anyL (P:Program) (md:Region.Mode) (ops:Array Oper) (Q:Exit->Act->World->Prop) (late:Nat->Bool) (S:World->Prop):Nat->Array Bool->Act->World->Prop
  | 0,l,a,w=>Region.ready md ops l = []/\Q .normal a w
  | n + 1,l,a,w=>(Region.ready md ops l = []->Q .normal a w)/\∀ i∈Region.ready md ops l,wpOp P ops Q i (fun a' w'=>Sl late S (l.setIfInBounds i true) w'/\anyL P md ops Q late S n (l.setIfInBounds i true) a' w') a w
theorem any_of:∀ (n:Nat) (l:Array Bool) (a:Act) (w:World),anyL P md ops Q late S n l a w->wpAny P md ops Q n l a w
  | 0,_,_,_,h=>h
  | n + 1,_,_,_,h=>⟨h.1,fun i hi=>wpOp_mono (fun a' w' h'=>any_of n _ a' w' h'.2) (h.2 i hi)⟩
theorem unlisted {l:Array Bool} {i:Nat} (h:l.getD i true = false):l.getD i false = false:=by
  rcases Nat.lt_or_ge i l.size with h' | h'
  · simp [h'] at h ⊢;exact h
  · simp [Array.getElem?_eq_none h'] at h
theorem first {i : Nat} {oi : Oper} {v : Value} (hi : ops[i]? = some oi) (hsel : ∀ (j : Nat) (o : Oper) cs b, ops[j]? = some o → o.op ≠ .select cs b)
    (hQ:∀ c a w,Q (.panic c) (a.put oi.dst v) w->Q (.panic c) a w) (hli:late i = false)
    (hw:∀ j oj,ops[j]? = some oj->late j = true->∃ e∈oj.after,Region.binds md e = true/\(e.on = i∨late e.on = true)) :
    ∀ (n : Nat) (l : Array Bool) (a : Act) (w : World),
      (∀ j oj,ops[j]? = some oj->j≠i->l.getD j true = false->(∀ e∈oj.after,Region.binds md e = true->e.on≠i)->oi.apart ops oj = true) ->
      i∈Region.ready md ops l->(∀ k,late k = true->l.getD k false = false)->YieldsIf P ops S oi v a->S w ->
      anyL P md ops Q late S n (l.setIfInBounds i true) (a.put oi.dst v) w->anyL P md ops Q late S (n + 1) l a w:=by
  intro n
  induction n with
  | zero =>
    intro l a w _ hr _ hy hS H
    refine ⟨fun h=>(by rw [h] at hr;cases hr),fun j hj=>?_⟩
    by_cases hji:j = i
    · subst hji;exact hy.wpOp hi hS ⟨.inr hS,H⟩
    · have := ready_mono hj hji
      rw [H.1] at this
      cases this
  | succ n ih =>
    intro l a w hfree hr hno hy hS H
    refine ⟨fun h=>(by rw [h] at hr;cases hr),fun j hj=>?_⟩
    by_cases hji:j = i
    · subst hji;exact hy.wpOp hi hS ⟨.inr hS,H⟩
    · have h1 := H.2 j (ready_mono hj hji)
      obtain ⟨hjun,oj,hoj,hall⟩:=mem_ready.1 hj
      have hiun:=unlisted (mem_ready.1 hr).1
      have hnot:∀ e∈oj.after,Region.binds md e = true->e.on≠i:=fun e he hb heq=>by
        have h1:=hall e he hb
        rw [heq,hiun] at h1
        cases h1
      have hlj:late j = false:=by
        cases h:late j with
        | false=>rfl
        | true =>
          obtain ⟨e,he,hb,h2 | h2⟩:=hw j oj hoj h
          · exact absurd h2 (hnot e he hb)
          · have h3 := hall e he hb
            rw [hno _ h2] at h3
            cases h3
      have hno':∀ k,late k = true->(l.setIfInBounds j true).getD k false = false:=fun k hk=>by
        rw [getD_set_ne false (fun e=>by subst e;rw [hlj] at hk;cases hk)]
        exact hno k hk
      have h2:=wpOp_putIf (S:=S) hoj (hfree j oj hoj hji hjun hnot) (fun cs b=>hsel i oi cs b hi) (fun cs b=>hsel j oj cs b hoj) hQ hy h1
      have hfree':∀ k ok,ops[k]? = some ok->k≠i->(l.setIfInBounds j true).getD k true = false ->
          (∀ e∈ok.after,Region.binds md e = true->e.on≠i)->oi.apart ops ok = true:=fun k ok hk hki hun hn=>by
        refine hfree k ok hk hki ?_ hn
        by_cases hjk:j = k
        · subst hjk;exact hjun
        · rw [getD_set_ne true hjk] at hun;exact hun
      refine wpOp_mono (fun a' w' h3=>?_) h2
      obtain ⟨hy3,hS3,H3⟩:=h3
      have hS':S w':=by
        rcases hS3 with ⟨k,hk,hk2⟩ | h
        · rw [getD_set_ne false (fun e => by subst e; rw [hlj] at hk; cases hk), getD_set_ne false (fun e => by subst e; rw [hli] at hk; cases hk), hno k hk] at hk2
          cases hk2
        · exact h
      refine ⟨.inr hS',ih (l.setIfInBounds j true) a' w' hfree' (ready_mono hr (Ne.symm hji)) hno' hy3 hS' ?_⟩
      rw [Array.setIfInBounds_comm _ _ hji]
      exact H3
/-- All that has not come up is late: no condition is left. -/
theorem of_any : ∀ (n : Nat) (l : Array Bool) (a : Act) (w : World), (∀ j ∈ List.range ops.size, l.getD j true = false → late j = true) → wpAny P md ops Q n l a w → anyL P md ops Q late S n l a w
  | 0,_,_,_,_,h=>h
  | n + 1, l, _, _, hl, h => ⟨h.1, fun i hi => wpOp_mono (fun a' w' h' => by
      obtain ⟨hun,o,ho,-⟩:=mem_ready.1 hi
      have hlt:i < ops.size:=(Array.getElem?_eq_some_iff.1 ho).1
      have hll:i < l.size:=by
        rcases Nat.lt_or_ge i l.size with h' | h'
        · exact h'
        · simp [Array.getElem?_eq_none h'] at hun
      refine ⟨.inl ⟨i,hl i (List.mem_range.2 hlt) hun,by simp [hll]⟩,of_any n _ a' w' (fun j hj hju=>hl j hj ?_) h'⟩
      by_cases hij:i = j
      · subst hij;exact hun
      · rw [getD_set_ne true hij] at hju;exact hju) (h.2 i hi)⟩
/-- What is late waits for i, or for what is late. -/
def waitsB (md:Region.Mode) (ops:Array Oper) (ls:List Nat) (i:Nat):Bool:=!ls.contains i && (List.range ops.size).all fun j=>!ls.contains j || match ops[j]? with
  | some o=>o.after.any fun e=>Region.binds md e && (e.on == i || ls.contains e.on)
  | none=>true
theorem take {ls:List Nat} {i:Nat} {oi:Oper} {v:Value} {n:Nat} {l:Array Bool} {a:Act} {w:World} (hi:ops[i]? = some oi) (hs:Region.noSelect ops = true) (hf:Region.free md ops l i = true) (hr:(Region.ready md ops l).contains i = true) (hb:waitsB md ops ls i = true) (hn:(ls.all fun k=>!l.getD k false) = true)
    (hQ:∀ c a w,Q (.panic c) (a.put oi.dst v) w->Q (.panic c) a w) (hy:YieldsIf P ops S oi v a) (hS:S w)
    (h:anyL P md ops Q (fun k=>ls.contains k) S n (l.setIfInBounds i true) (a.put oi.dst v) w):anyL P md ops Q (fun k=>ls.contains k) S (n + 1) l a w:=by
  unfold waitsB at hb
  rw [Bool.and_eq_true] at hb
  refine first hi (Region.noSelect_spec hs) hQ (by simpa using hb.1) (fun j oj hj hl=>?_) n l a w (Region.free_spec hi hf) (by simpa using hr) (fun k hk=>?_) hy hS h
  · have h1 := List.all_eq_true.1 hb.2 j (List.mem_range.2 (Array.getElem?_eq_some_iff.1 hj).1)
    rw [show ls.contains j = true from hl,hj] at h1
    simp only [Bool.not_true,Bool.false_or] at h1
    obtain ⟨e,he,h2⟩:=Array.any_eq_true'.1 h1
    simp only [Bool.and_eq_true,Bool.or_eq_true,beq_iff_eq] at h2
    exact ⟨e,he,h2.1,h2.2⟩
  · have h1 := List.all_eq_true.1 hn k (by simpa using hk)
    simpa using h1
theorem tk {ls:List Nat} {i:Nat} {oi:Oper} {v:Value} {n:Nat} {l:Array Bool} {a:Act} {w:World} (hi:ops[i]? = some oi) (hy:YieldsIf P ops S oi v a) (hS:S w)
    (h:anyL P md ops Q (fun k=>ls.contains k) S n (l.setIfInBounds i true) (a.put oi.dst v) w)
    (hb:(Region.noSelect ops && (Region.free md ops l i && ((Region.ready md ops l).contains i && (waitsB md ops ls i && (ls.all fun k=>!l.getD k false))))) = true:=by kernel_rfl) (hQ:∀ c a w,Q (.panic c) (a.put oi.dst v) w->Q (.panic c) a w:=by exact fun _ _ _ h=>h):anyL P md ops Q (fun k=>ls.contains k) S (n + 1) l a w:=by
  simp only [Bool.and_eq_true] at hb
  exact take hi hb.1 hb.2.1 hb.2.2.1 hb.2.2.2.1 hb.2.2.2.2 hQ hy hS h
theorem rest {ls:List Nat} {n:Nat} {l:Array Bool} {a:Act} {w:World} (hb:((List.range ops.size).all fun j=>l.getD j true || ls.contains j) = true) (h:wpAny P md ops Q n l a w):anyL P md ops Q (fun k=>ls.contains k) S n l a w :=
  of_any n l a w (fun j hj hu=>by
    have h1:=List.all_eq_true.1 hb j hj
    rw [hu,Bool.false_or] at h1
    exact h1) h
/-- A late one has come up: no condition is left. -/
theorem of_late:∀ (n:Nat) (l:Array Bool) (a:Act) (w:World),(∃ k,late k = true/\l.getD k false = true)->wpAny P md ops Q n l a w->anyL P md ops Q late S n l a w
  | 0,_,_,_,_,h=>h
  | n + 1,_,_,_,⟨k,hk,hk2⟩,h=>⟨h.1,fun i hi=>wpOp_mono (fun a' w' h'=>⟨.inl ⟨k,hk,getD_set_true hk2⟩,of_late n _ a' w' ⟨k,hk,getD_set_true hk2⟩ h'⟩) (h.2 i hi)⟩
/-- Two may come up: a late one, and one behind which S holds still. -/
theorem two {ls:List Nat} {i j:Nat} {oi oj:Oper} {n:Nat} {l:Array Bool} {a:Act} {w:World} (hr:Region.ready md ops l = [i,j]) (hi:ops[i]? = some oi) (hj:ops[j]? = some oj) (hl:(ls.contains i && (l.setIfInBounds i true).getD i false) = true)
    (h1:∀ K':Act->World->Prop,(∀ a w,wpAny P md ops Q n (l.setIfInBounds i true) a w->K' a w)->if Region.wanted oi (yielded ops a.tmps) = true then Oper.wp P oi a w K' Q else K' (a.put oi.dst undef) w)
    (h2:∀ K':Act->World->Prop,(∀ a w,S w->anyL P md ops Q (fun k=>ls.contains k) S n (l.setIfInBounds j true) a w->K' a w)->if Region.wanted oj (yielded ops a.tmps) = true then Oper.wp P oj a w K' Q else K' (a.put oj.dst undef) w):anyL P md ops Q (fun k=>ls.contains k) S (n + 1) l a w:=by
  rw [Bool.and_eq_true] at hl
  refine ⟨fun h=>(by rw [hr] at h;cases h),fun k hk=>?_⟩
  rw [hr] at hk
  rcases List.mem_cons.1 hk with rfl | hk
  · exact wpOp_mono (fun a' w' h=>⟨.inl ⟨k,hl⟩,of_late n _ a' w' ⟨k,hl⟩ h⟩) (wpOp_step hi h1)
  · rcases List.mem_cons.1 hk with rfl | hk
    · have := h2 (fun a' w' => Sl (fun k => ls.contains k) S (l.setIfInBounds k true) w' ∧ anyL P md ops Q (fun k => ls.contains k) S n (l.setIfInBounds k true) a' w') (fun a' w' hS h => ⟨.inr hS, h⟩)
      unfold wpOp
      simp only [hj]
      split
      · rename_i hw;rw [if_pos hw] at this;exact .inl this
      · rename_i hw;rw [if_neg hw] at this;exact this
    · cases hk
end
end Fst
end Go.Proofs.YtggoccfddnpelaaGreat
namespace Go.Proofs.YtggoccfddnpelaaGreat
open Go.ChangeShapes Go.WideShapes Go.ChangeAt Go.RowKit Go.Deep It
set_option maxRecDepth 100000
theorem step_row {α:Type} {P:Program} {w:World} {ops:Array Oper} {o:Oper} {a:Act} {K:Act->World->Prop} {Q:Exit->Act->World->Prop} {X:Prop} (hgd:o.guard = none) (s x:Operand) (t:TypeId)
    (ho:o.op = .call { callee:=.builtin .append,args:=#[s,x],argTypes:=#[t,t] }) (E:Enc α) (S:Nat->Prop)
    (B:Nat) (e:TypeId) (i:TypeInfo) (z:Value) (bytes:Nat) (ht:P.underlying t = some (.slice e)) (hi:P.info? e = some i) (hz:i.zero = some z) (hsize:i.size = E.sz) (hby:i.bytes = bytes) (hzs:z.cells.size = E.sz)
    (v:Value) (ls:List α) (hv:a.eval s = v) (hrow:Row E w B e v ls) (xv:Value) (xs:List α) (hxv:a.eval x = xv) (hx:At E S w xv xs) (h63:ls.length + xs.length<=maxLen) (hbytes:(ls.length + xs.length + (ls.length + xs.length) / 4 + 192) * bytes<=281474976710656) (hbase:B<=w.heap.size)
    (h:∀ v' w',Row E w' B e v' (ls ++ xs)->w.grownBy w' v.ownBlock->(v'.ownBlock = v.ownBlock∨∀ j,v'.ownBlock = some j->w.heap.size<=j)->K (a.put o.dst v') w') :
    if Region.wanted o (yielded ops a.tmps) = true then Oper.wp P o a w K Q else X:=by
  have hw:Region.wanted o (yielded ops a.tmps) = true:=by simp [Region.wanted,hgd]
  rw [if_pos hw]
  obtain ⟨v',w',hr,h2,h3,h4⟩:=Row.append_run (P:=P) w E S B t o.type e i z bytes ht hi hz hsize hby hzs v ls hrow xv xs hx h63 hbytes hbase
  unfold Oper.wp execOp
  simp only [ho,resolve,invoke,builtin,Sem.run_bind,Sem.run_pure,Result.andThen_ok,List.map_toArray,List.map_cons,List.map_nil,hv,hxv,hr]
  exact h v' w' h2 h3 h4
/-- A block of another kind is no row's. -/
theorem Row.off {α:Type} {E:Enc α} {w:World} {B:Nat} {e T:TypeId} {v:Value} {ls:List α} {b:Nat} {o:Array Value} (h:Row E w B e v ls) (hb:w.heap[b]? = some (.cells o T (0,0))) (hT:T≠e):v.ownBlock = none∨v.ownBlock≠some b:=by
  rcases h with ⟨rfl,rfl⟩ | ⟨g,cap,cur,rfl,hB,hh,_⟩
  · exact .inl rfl
  · refine .inr fun hq => ?_
    have e1:g = b:=by simpa [Value.ownBlock] using hq
    subst e1
    rw [hb] at hh
    simp at hh
    exact hT hh.2
theorem Row.off' {α:Type} {E:Enc α} {w:World} {B:Nat} {e T:TypeId} {v:Value} {ls:List α} {b:Nat} {o:Array Value} (h:Row E w B e v ls) (hb:w.heap[b]? = some (.cells o T (0,0))) (hT:T≠e):v.ownBlock≠some b:=by
  rcases h.off hb hT with h1 | h1
  · rw [h1];simp
  · exact h1
/-- Two rows of two kinds are two. -/
theorem Row.apart {α β:Type} {E:Enc α} {G:Enc β} {w:World} {B C:Nat} {e f:TypeId} {v u:Value} {ls:List α} {ms:List β} (h:Row E w B e v ls) (k:Row G w C f u ms) (hef:e≠f):v.ownBlock = none∨v.ownBlock≠u.ownBlock:=by
  rcases k with ⟨rfl,rfl⟩ | ⟨g,cap,cur,rfl,hB,hh,_⟩
  · rcases h with ⟨rfl, rfl⟩ | ⟨g, cap, cur, rfl, _⟩
    · exact .inl rfl
    · exact .inr (by simp [Value.ownBlock])
  · exact h.off hh (Ne.symm hef)
abbrev BI (x:Ino) (rv ev:Value):Obj:=.cells #[.int .i64 x.gen,.int .i64 x.kind,.int .i64 x.links,.int .i64 x.size,.int .i64 x.stamp,rv,ev,.int .i64 x.next] 52
structure RI (n0 A:Nat) (x:Ino) (rv ev:Value) (w0 w:World):Prop where
  box:w.heap[A]? = some (BI x rv ev)
  rows:Row ER w n0 67 rv x.runs
  rowE:Row EE w n0 91 ev x.ents
  base:n0<=A
  bl:Below n0 w0 w
  st:n0<=w0.heap.size
section
variable {n0 A:Nat} {x:Ino} {rv ev:Value} {w0 w w':World}
theorem RI.sz (h:RI n0 A x rv ev w0 w):n0<=w.heap.size:=Nat.le_trans h.st h.bl.size
theorem RI.lt (h:RI n0 A x rv ev w0 w):A < w.heap.size:=(Array.getElem?_eq_some_iff.1 h.box).1
theorem RI.up (h:RI n0 A x rv ev w0 w) (hb:Below w.heap.size w w'):RI n0 A x rv ev w0 w':=⟨(hb.block _ h.lt).trans h.box,h.rows.up hb,h.rowE.up hb,h.base,h.bl.trans (hb.mono h.sz),h.st⟩
theorem RI.drew (h:RI n0 A x rv ev w0 w):RI n0 A x rv ev w0 w.drew:=⟨h.box,h.rows,h.rowE,h.base,h.bl.drew,h.st⟩
theorem RI.tx {b:Nat} {s t:ByteArray} (h:RI n0 A x rv ev w0 w) (hb:w.heap[b]? = some (BT s)) (hn:n0<=b) (k:Tx b t w w'):RI n0 A x rv ev w0 w':=by
  have hne:A≠b:=by
    rintro rfl
    rw [h.box] at hb
    cases hb
  exact ⟨k.at h.box hne,h.rows.kept k.gr (h.rows.off hb (by decide)),h.rowE.kept k.gr (h.rowE.off hb (by decide)),h.base,k.below h.bl hn h.sz,h.st⟩
/-- The box written anew, the lists as they were. -/
theorem RI.set {y:Ino} {u:Value} {k:Nat} (h:RI n0 A x rv ev w0 w) (hr:y.runs = x.runs) (he:y.ents = x.ents) (hc:(#[.int .i64 x.gen,.int .i64 x.kind,.int .i64 x.links,.int .i64 x.size,.int .i64 x.stamp,rv,ev,.int .i64 x.next]:Array Value).setIfInBounds k u = #[.int .i64 y.gen,.int .i64 y.kind,.int .i64 y.links,.int .i64 y.size,.int .i64 y.stamp,rv,ev,.int .i64 y.next]):RI n0 A y rv ev w0 (w.setCell ⟨A,k,none⟩ u):=by
  have hg:w.grownBy (w.setCell ⟨A,k,none⟩ u) (some A):=⟨rfl,rfl,rfl,by simp [World.setCell],fun j hj hk=>Below.heap_setCell _ _ _ _ (fun e=>hk (by rw [e]))⟩
  refine ⟨?_,?_,?_,h.base,h.bl.grown hg h.sz (fun j hj=>by cases hj;exact h.base),h.st⟩
  · have := set_at h.box k u
    rw [hc] at this
    exact this
  · rw [hr];exact h.rows.kept hg (h.rows.off h.box (by decide))
  · rw [he];exact h.rowE.kept hg (h.rowE.off h.box (by decide))
/-- A run more. -/
theorem RI.run {r:Int × ByteArray} {v9:Value} {w9:World} (h:RI n0 A x rv ev w0 w) (hr:Row ER w9 n0 67 v9 (x.runs ++ [r])) (hg:w.grownBy w9 rv.ownBlock):RI n0 A { x with runs:=x.runs ++ [r] } v9 ev w0 (w9.setCell ⟨A,5,none⟩ v9)/\w9.heap[A]? = some (BI x rv ev):=by
  have hb:w9.heap[A]? = some (BI x rv ev):=(hg.block A h.lt (fun e=>h.rows.off' h.box (by decide) e.symm)).trans h.box
  have hg2:w9.grownBy (w9.setCell ⟨A,5,none⟩ v9) (some A):=⟨rfl,rfl,rfl,by simp [World.setCell],fun j hj hk=>Below.heap_setCell _ _ _ _ (fun e=>hk (by rw [e]))⟩
  have he:Row EE w9 n0 91 ev x.ents:=h.rowE.kept hg (h.rowE.apart h.rows (by decide))
  have hB:Below n0 w0 w9:=h.bl.grown hg h.sz (fun j hj=>(h.rows.lt j hj).1)
  exact ⟨⟨set_at hb 5 v9,hr.kept hg2 (hr.off hb (by decide)),he.kept hg2 (he.off hb (by decide)),h.base,hB.grown hg2 (Nat.le_trans h.sz hg.size) (fun j hj=>by cases hj;exact h.base),h.st⟩,hb⟩
/-- An entry more. -/
theorem RI.ent {r:ByteArray × Int × Int × Int} {v9:Value} {w9:World} (h:RI n0 A x rv ev w0 w) (hr:Row EE w9 n0 91 v9 (x.ents ++ [r])) (hg:w.grownBy w9 ev.ownBlock):RI n0 A { x with ents:=x.ents ++ [r] } rv v9 w0 (w9.setCell ⟨A,6,none⟩ v9)/\w9.heap[A]? = some (BI x rv ev):=by
  have hb:w9.heap[A]? = some (BI x rv ev):=(hg.block A h.lt (fun e=>h.rowE.off' h.box (by decide) e.symm)).trans h.box
  have hg2:w9.grownBy (w9.setCell ⟨A,6,none⟩ v9) (some A):=⟨rfl,rfl,rfl,by simp [World.setCell],fun j hj hk=>Below.heap_setCell _ _ _ _ (fun e=>hk (by rw [e]))⟩
  have he:Row ER w9 n0 67 rv x.runs:=h.rows.kept hg (h.rows.apart h.rowE (by decide))
  have hB:Below n0 w0 w9:=h.bl.grown hg h.sz (fun j hj=>(h.rowE.lt j hj).1)
  exact ⟨⟨set_at hb 6 v9,he.kept hg2 (he.off hb (by decide)),hr.kept hg2 (hr.off hb (by decide)),h.base,hB.grown hg2 (Nat.le_trans h.sz hg.size) (fun j hj=>by cases hj;exact h.base),h.st⟩,hb⟩
end
theorem at_run {w:World} {B:Nat} {r:Int × ByteArray} (h:w.heap[B]? = some (.cells #[.int .i64 r.1,.string r.2] 67)):AtW ER w (.slice (some ⟨B,0,none⟩) 1 1) [r]:=by
  refine .inr ⟨B,0,1,rfl,trivial,(Array.getElem?_eq_some_iff.1 h).1,by simp,by simp,by unfold maxLen;omega,fun j u hj=>?_⟩
  have c:=cell_at h j
  rw [Nat.zero_add,c]
  have e:ER.flat [r] = [.int .i64 r.1,.string r.2]:=by simp [Enc.flat,ER]
  rw [e] at hj
  simpa using hj
theorem at_ent {w:World} {B:Nat} {r:ByteArray × Int × Int × Int} (h:w.heap[B]? = some (.cells #[.string r.1,.int .i64 r.2.1,.int .i64 r.2.2.1,.int .i64 r.2.2.2] 91)):AtW EE w (.slice (some ⟨B,0,none⟩) 1 1) [r]:=by
  refine .inr ⟨B,0,1,rfl,trivial,(Array.getElem?_eq_some_iff.1 h).1,by simp,by simp,by unfold maxLen;omega,fun j u hj=>?_⟩
  have c:=cell_at h j
  rw [Nat.zero_add,c]
  have e:EE.flat [r] = [.string r.1,.int .i64 r.2.1,.int .i64 r.2.2.1,.int .i64 r.2.2.2]:=by simp [Enc.flat,EE]
  rw [e] at hj
  simpa using hj
end Go.Proofs.YtggoccfddnpelaaGreat
namespace Go.Proofs.YtggoccfddnpelaaGreat.Ks.Rs
open Go.ChangeShapes Go.WideShapes Go.ChangeAt Go.RowKit Go.Deep
set_option maxRecDepth 100000
theorem fwithin_any (lo x hi:Int) (w:World):Calls Tryz.prog 148 #[.int .i64 lo,.int .i64 x,.int .i64 hi] w fun e w'=>e = .returned (.bool (decide (lo<=x/\x<=hi)))/\w' = w:=by
  by_cases h1:lo<=x
  · by_cases h2 : x ≤ hi
    · rw [decide_eq_true (show lo ≤ x ∧ x ≤ hi from ⟨h1, h2⟩)]
      go_enter Tryz.func148,Tryz.ntmps148
      go_wp2
      go_ret
      exact ⟨rfl,rfl⟩
    · rw [decide_eq_false (show ¬ (lo ≤ x ∧ x ≤ hi) from fun h => h2 h.2)]
      go_enter Tryz.func148,Tryz.ntmps148
      go_wp2
      go_ret
      exact ⟨rfl,rfl⟩
  · rw [decide_eq_false (show ¬ (lo ≤ x ∧ x ≤ hi) from fun h => h1 h.1)]
    go_enter Tryz.func148,Tryz.ntmps148
    go_wp2
    go_ret
    exact ⟨rfl,rfl⟩
theorem fwithin_yes (lo x hi:Int) (w:World) (h:lo<=x/\x<=hi):Calls Tryz.prog 148 #[.int .i64 lo,.int .i64 x,.int .i64 hi] w fun e w'=>e = .returned (.bool true)/\w' = w:=by
  have:=fwithin_any lo x hi w
  rwa [decide_eq_true h] at this
theorem fwithin_no (lo x hi:Int) (w:World) (h:¬ (lo<=x/\x<=hi)):Calls Tryz.prog 148 #[.int .i64 lo,.int .i64 x,.int .i64 hi] w fun e w'=>e = .returned (.bool false)/\w' = w:=by
  have:=fwithin_any lo x hi w
  rwa [decide_eq_false h] at this
theorem toList_ne {s:ByteArray} {a:Array UInt8} (h:s≠⟨a⟩):¬ s.toList = a.toList:=fun e=>h (by
  rw [ByteArray.toList_eq] at e
  cases s
  simp at e
  rw [e])
theorem below_iter {w:World} (s:ByteArray) (p:Nat):Below w.heap.size w (w.iter s p):=(Below.refl _ w).alloc (Nat.le_refl _) _
set_option maxHeartbeats 1000000 in
theorem name_any (s : ByteArray) (w : World) (hm : s.size ≤ maxLen) : Calls Tryz.prog 149 #[.string s] w fun e w' => e = .returned (.int .i64 (Nm.err s)) ∧ Below w.heap.size w w' := by
  unfold maxLen at hm
  by_cases h1:1<=(s.size:Int)/\(s.size:Int)<=32
  · have H1 : Hid (1 ≤ (s.size : Int) ∧ (s.size : Int) ≤ 32) := h1
    by_cases h2:s = ⟨#[46]⟩
    · have H : Hid (Nm.err s = 409) := Nm.err_no fun h => h.2.2.1 h2
      rw [H.out]
      subst h2
      go_enter Tryz.func149,Tryz.ntmps149
      go_wp2_with fail
      refine (fwithin_yes _ _ _ _ H1.out).mono ?_
      rintro e w' ⟨rfl,rfl⟩
      go_wp2
      go_ret
      exact ⟨rfl,Below.refl _ _⟩
    · by_cases h3 : s = ⟨#[46, 46]⟩
      · have H : Hid (Nm.err s = 409) := Nm.err_no fun h => h.2.2.2.1 h3
        rw [H.out]
        subst h3
        go_enter Tryz.func149,Tryz.ntmps149
        go_wp2_with fail
        refine (fwithin_yes _ _ _ _ H1.out).mono ?_
        rintro e w' ⟨rfl,rfl⟩
        go_wp2
        go_ret
        exact ⟨rfl,Below.refl _ _⟩
      · have H2 : Hid (s ≠ ⟨#[46]⟩ ∧ s ≠ ⟨#[46, 46]⟩) := ⟨h2, h3⟩
        have e2:(s.toList == [46]) = false:=beq_eq_false_iff_ne.2 (toList_ne h2)
        have e3:(s.toList == [46,46]) = false:=beq_eq_false_iff_ne.2 (toList_ne h3)
        clear h1 h2 h3
        go_enter Tryz.func149,Tryz.ntmps149
        go_wp2_with fail
        refine (fwithin_yes _ _ _ _ H1.out).mono ?_
        rintro e w' ⟨rfl,hw⟩
        obtain rfl:w = w':=hw.symm
        go_wp2
        go_loopw [4] (fun _ wr=>∃ pos:Nat,pos<=s.size/\wr = w.iter s pos/\Nm.clean s pos) (fun _ wr=>s.size - wr.iterPos w.heap.size)
        case atStart=>exact ⟨0,Nat.zero_le _,rfl,Nm.clean_zero s⟩
        case round =>
          obtain ⟨pos,hps,rfl,hc⟩:=hrel
          have HC:Hid (Nm.clean s pos):=hc
          clear hc
          by_cases hp:pos < s.size
          · have hnext : ∀ ty, (Instr.next (.pointer (some ⟨w.heap.size, 0, none⟩)) true ty).run Tryz.prog (w.iter s pos) = _ := fun ty => run_next_any w s pos ty hp
            obtain ⟨hd1,hd2,-⟩:=Nm.decode_skip s pos hp
            obtain ⟨q1,q2⟩:=Nm.decode_bad s pos hp
            have HJ:Hid ((Utf8.decode s pos).1≠47->(Utf8.decode s pos).1≠0->Nm.clean s (pos + (Utf8.decode s pos).2)):=fun a b=>Nm.clean_jump hp HC.out a b
            have HB:Hid ((Utf8.decode s pos).1 = 47∨(Utf8.decode s pos).1 = 0->Nm.err s = 409):=fun a=>Nm.err_no (Nm.clean_bad hp (a.imp q1.1 q2.1))
            clear q1 q2
            generalize Utf8.decode s pos = d at *
            obtain ⟨r,k⟩:=d
            simp only at *
            by_cases r1:r = 47
            · subst r1
              have H:Hid (Nm.err s = 409):=HB.out (.inl rfl)
              go_wp2
              go_ret
              rw [H.out]
              exact ⟨rfl,below_iter s _⟩
            · by_cases r0 : r = 0
              · subst r0
                have H:Hid (Nm.err s = 409):=HB.out (.inr rfl)
                go_wp2
                go_ret
                rw [H.out]
                exact ⟨rfl,below_iter s _⟩
              · have t1 : ((r : Int) == 47) = false := beq_eq_false_iff_ne.2 (by omega)
                have t0:((r:Int) == 0) = false:=beq_eq_false_iff_ne.2 (by omega)
                have HK:Hid (Nm.clean s (pos + k)):=HJ.out r1 r0
                go_wp2
                go_roundw
                case rel=>exact ⟨pos + k,hd2,rfl,HK.out⟩
                case measure =>
                  simp only [World.iterPos_iter]
                  omega
          · have hnext : ∀ ty, (Instr.next (.pointer (some ⟨w.heap.size, 0, none⟩)) true ty).run Tryz.prog (w.iter s pos) = _ := fun ty => run_next_end w s pos ty hp
            have H:Hid (Nm.err s = 0):=Nm.err_ok ⟨by have:=H1.out.1;omega,by have:=H1.out.2;omega,H2.out.1,H2.out.2,by
              have:=HC.out
              rwa [show pos = s.size by omega] at this⟩
            go_wp2
            go_ret
            rw [H.out]
            exact ⟨rfl,below_iter s _⟩
  · have H : Hid (Nm.err s = 409) := Nm.err_no fun h => h1 ⟨by have := h.1; omega, by have := h.2.1; omega⟩
    have H1:Hid (¬ (1<=(s.size:Int)/\(s.size:Int)<=32)):=h1
    rw [H.out]
    clear h1
    go_enter Tryz.func149,Tryz.ntmps149
    go_wp2_with fail
    refine (fwithin_no _ _ _ _ H1.out).mono ?_
    rintro e w' ⟨rfl,rfl⟩
    go_wp2
    go_ret
    exact ⟨rfl,Below.refl _ _⟩
set_option maxHeartbeats 1000000 in
theorem rname_any (s : ByteArray) (w : World) (hm : s.size ≤ maxLen) : Calls Tryz.prog 143 #[.string s] w fun e w' => e = .returned (.int .i64 (Nm.err s)) ∧ w' = w := by
  unfold maxLen at hm
  by_cases h1:s.size < 1
  · have H : Hid (Nm.err s = 409) := Nm.err_no fun h => by have := h.1; omega
    rw [H.out]
    have h1':(s.size:Int) < 1:=by omega
    go_enter Tryz.func143,Tryz.ntmps143
    go_wp2
    go_ret
    exact ⟨rfl,rfl⟩
  by_cases h2:32 < s.size
  · have H : Hid (Nm.err s = 409) := Nm.err_no fun h => by have := h.2.1; omega
    rw [H.out]
    have h1':¬ (s.size:Int) < 1:=by omega
    have h2':(32:Int) < (s.size:Int):=by omega
    go_enter Tryz.func143,Tryz.ntmps143
    go_wp2
    go_ret
    exact ⟨rfl,rfl⟩
  by_cases h3:s = ⟨#[46]⟩
  · have H : Hid (Nm.err s = 409) := Nm.err_no fun h => h.2.2.1 h3
    rw [H.out]
    subst h3
    go_enter Tryz.func143,Tryz.ntmps143
    go_wp2
    go_ret
    exact ⟨rfl,rfl⟩
  by_cases h4:s = ⟨#[46,46]⟩
  · have H : Hid (Nm.err s = 409) := Nm.err_no fun h => h.2.2.2.1 h4
    rw [H.out]
    subst h4
    go_enter Tryz.func143,Tryz.ntmps143
    go_wp2
    go_ret
    exact ⟨rfl,rfl⟩
  have H2:Hid (1<=s.size/\s.size<=32/\s≠⟨#[46]⟩/\s≠⟨#[46,46]⟩):=⟨by omega,by omega,h3,h4⟩
  have e2:(s.toList == [46]) = false:=beq_eq_false_iff_ne.2 (toList_ne h3)
  have e3:(s.toList == [46,46]) = false:=beq_eq_false_iff_ne.2 (toList_ne h4)
  have g1:¬ (s.size:Int) < 1:=by omega
  have g2:¬ (32:Int) < (s.size:Int):=by omega
  clear h1 h2 h3 h4
  go_enter Tryz.func143,Tryz.ntmps143
  go_wp2
  go_loopw [3] (fun i wr=>∃ k:Nat,k<=s.size/\i = .int .i64 k/\wr = w/\Hid (Nm.clean s k)) (fun i _=>s.size - (intOf i).toNat)
  case atStart=>exact ⟨0,Nat.zero_le _,rfl,rfl,Nm.clean_zero s⟩
  case round =>
    obtain ⟨k,hk,rfl,rfl,HC⟩:=hrel
    by_cases hlt:k < s.size
    · have hlt' : (k : Int) < (s.size : Int) := by omega
      obtain ⟨c,hc⟩:∃ c,s[k]'hlt = c:=⟨_,rfl⟩
      by_cases c1:c.toNat = 47
      · have H : Hid (Nm.err s = 409) := Nm.err_no (Nm.clean_bad hlt (.inl (by rw [hc]; exact c1)))
        have c1':((c.toNat:Int) == 47) = true:=by simp [c1]
        go_wp2
        go_ret
        rw [H.out]
        exact ⟨rfl,rfl⟩
      · have c1' : ((c.toNat : Int) == 47) = false := beq_eq_false_iff_ne.2 (by omega)
        by_cases c0:c.toNat = 0
        · have H : Hid (Nm.err s = 409) := Nm.err_no (Nm.clean_bad hlt (.inr (by rw [hc]; exact c0)))
          have c0':((c.toNat:Int) == 0) = true:=by simp [c0]
          go_wp2
          go_ret
          rw [H.out]
          exact ⟨rfl,rfl⟩
        · have c0' : ((c.toNat : Int) == 0) = false := beq_eq_false_iff_ne.2 (by omega)
          have HC2:Hid (Nm.clean s (k + 1)):=Nm.clean_succ hlt HC.out (by rw [hc];exact c1) (by rw [hc];exact c0)
          go_wp2
          go_roundw
          case rel=>exact ⟨k + 1,by omega,by go_num,trivial,HC2⟩
          case measure=>simp [intOf];omega
    · have H : Hid (Nm.err s = 0) := Nm.err_ok ⟨H2.out.1, H2.out.2.1, H2.out.2.2.1, H2.out.2.2.2, by
        have:=HC.out
        rwa [show k = s.size by omega] at this⟩
      have hlt':¬ (k:Int) < (s.size:Int):=by omega
      go_wp2
      go_ret
      rw [H.out]
      exact ⟨rfl,rfl⟩
end Go.Proofs.YtggoccfddnpelaaGreat.Ks.Rs
