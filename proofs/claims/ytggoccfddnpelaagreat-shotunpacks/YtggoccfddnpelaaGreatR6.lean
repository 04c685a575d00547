/- Late, Rg, as one. -/
import Derived.RangeFuncBound
import Derived.RangeFuncLeaves
import Derived.Test.YtggoccfddnpelaaGreatR1
namespace Go.Proofs.YtggoccfddnpelaaGreat
set_option maxRecDepth 100000
namespace Late
variable {P:Program} {ops:Array Oper} {Q:Exit->Act->World->Prop} {md:Region.Mode} {S:World->Prop} {k:Nat}
/-- Whatever order is picked from here on; and S holds as long as number k has not come up. -/
def any (P:Program) (md:Region.Mode) (ops:Array Oper) (Q:Exit->Act->World->Prop) (S:World->Prop) (k:Nat):Nat->Array Bool->Act->World->Prop
  | 0,l,a,w=>Region.ready md ops l = []/\Q .normal a w
  | n + 1, l, a, w => (Region.ready md ops l = [] → Q .normal a w) ∧
      ∀ i∈Region.ready md ops l,wpOp P ops Q i (fun b v=>(i≠k->S v)/\any P md ops Q S k n (l.setIfInBounds i true) b v) a w
theorem any_plain:∀ (n:Nat) (l:Array Bool) (a:Act) (w:World),any P md ops Q S k n l a w->wpAny P md ops Q n l a w:=by
  intro n
  induction n with
  | zero=>exact fun _ _ _ h=>h
  | succ n ih=>exact fun l a w h=>⟨h.1,fun i hi=>wpOp_mono (fun b v hb=>ih _ b v hb.2) (h.2 i hi)⟩
/-- Number k waits for number i. -/
def waits (md:Region.Mode) (ops:Array Oper) (k i:Nat):Bool:=((ops[k]?).map fun o=>o.after.any fun e=>Region.binds md e && e.on == i).getD false
theorem not_yet {i j:Nat} {l:Array Bool} (hw:waits md ops k i = true) (hi:i∈Region.ready md ops l) (hj:j∈Region.ready md ops l):j≠k:=by
  intro e
  subst e
  unfold waits at hw
  obtain ⟨_,o,ho,hall⟩:=mem_ready.1 hj
  rw [ho] at hw
  simp only [Option.map_some,Option.getD_some,Array.any_eq_true'] at hw
  obtain ⟨d,hd,hb⟩:=hw
  simp only [Bool.and_eq_true,beq_iff_eq] at hb
  have h1:=hall d hd hb.1
  have h0:=(mem_ready.1 hi).1
  rw [hb.2] at h1
  have e1:l.getD i true = l.getD i false:=by
    by_cases hlt:i < l.size
    · simp [hlt]
    · simp [Array.getElem?_eq_none (Nat.le_of_not_lt hlt)] at h1
  rw [e1,h1] at h0
  cases h0
theorem before {i : Nat} {oi : Oper} {v : Value} (hi : ops[i]? = some oi) (hsel : Region.noSelect ops = true) (hw : waits md ops k i = true)
    (hQ:∀ c a w,Q (.panic c) (a.put oi.dst v) w->Q (.panic c) a w) :
    ∀ (n : Nat) (l : Array Bool) (a : Act) (w : World),
      (∀ j oj,ops[j]? = some oj->j≠i->l.getD j true = false->(∀ e∈oj.after,Region.binds md e = true->e.on≠i)->oi.apart ops oj = true) ->
      i∈Region.ready md ops l->YieldsIf P ops S oi v a->S w->any P md ops Q S k n (l.setIfInBounds i true) (a.put oi.dst v) w->any P md ops Q S k (n + 1) l a w:=by
  intro n
  induction n with
  | zero =>
    intro l a w _ hr hy hS hH
    refine ⟨fun h=>absurd hr (by rw [h];simp),fun j hj=>?_⟩
    by_cases e:j = i
    · subst e;exact hy.wpOp hi hS ⟨fun _=>hS,hH⟩
    · exact absurd (ready_mono hj e) (by rw [hH.1];simp)
  | succ n ih =>
    intro l a w hfr hr hy hS hH
    refine ⟨fun h=>absurd hr (by rw [h];simp),fun j hj=>?_⟩
    by_cases e:j = i
    · subst e;exact hy.wpOp hi hS ⟨fun _=>hS,hH⟩
    · have hjk := not_yet hw hr hj
      obtain ⟨hun,oj,hoj,hall⟩:=mem_ready.1 hj
      have hno:∀ d∈oj.after,Region.binds md d = true->d.on≠i:=by
        intro d hd hb hdi
        have h1:=hall d hd hb
        have h0:=(mem_ready.1 hr).1
        rw [hdi] at h1
        by_cases hlt:i < l.size
        · simp [hlt] at h0 h1
          rw [h0] at h1
          cases h1
        · simp [Array.getElem?_eq_none (Nat.le_of_not_lt hlt)] at h1
      refine wpOp_mono (fun b u hb=>⟨fun _=>hb.2.1 hjk,?_⟩) (wpOp_putIf hoj (hfr j oj hoj e hun hno) (fun cs b=>Region.noSelect_spec hsel i oi cs b hi) (fun cs b=>Region.noSelect_spec hsel j oj cs b hoj) hQ hy (hH.2 j (ready_mono hj e)))
      refine ih (l.setIfInBounds j true) b u (fun q oq hq hqi hqu hqn=>hfr q oq hq hqi ?_ hqn) (ready_mono hr (Ne.symm e)) hb.1 (hb.2.1 hjk) ?_
      · by_cases hjq : j = q
        · subst hjq;exact hun
        · rw [getD_set_ne true hjq] at hqu;exact hqu
      · rw [Array.setIfInBounds_comm _ _ e]
        exact hb.2.2
/-- The post, of what does not panic. -/
def fine (Q:Exit->Act->World->Prop):Exit->Act->World->Prop:=fun e a w=>e = .normal/\Q .normal a w
/-- Take number i first. -/
theorem take (i:Nat) {oi:Oper} (v:Value) {n:Nat} {l:Array Bool} {a:Act} {w:World} (hi:ops[i]? = some oi) (hsel:Region.noSelect ops = true) (hw:waits md ops k i = true)
    (hf:Region.free md ops l i = true) (hr:(Region.ready md ops l).contains i = true)
    (hg:oi.guard = none) (hy:∀ w,S w->(execOp a.eval oi).run P w = .ok (.value v) w) (hS:S w) (h:any P md ops (fine Q) S k n (l.setIfInBounds i true) (a.put oi.dst v) w):any P md ops (fine Q) S k (n + 1) l a w :=
  before hi hsel hw (fun _ _ _ h=>by cases h.1) n l a w (Region.free_spec hi hf) (by simpa using hr) (.inl ⟨by simp [Region.wanted,hg],hy⟩) hS h
/-- One alone may come up. -/
theorem one (i:Nat) {oi:Oper} {n:Nat} {l:Array Bool} {a:Act} {w:World} (hi:ops[i]? = some oi) (hr:Region.ready md ops l = [i]) (hg:oi.guard = none)
    (h:oi.wp P a w (fun b v=>(i≠k->S v)/\any P md ops (fine Q) S k n (l.setIfInBounds i true) b v) (fine Q)):any P md ops (fine Q) S k (n + 1) l a w:=by
  refine ⟨fun h0=>absurd (hr.symm.trans h0) (by simp),fun j hj=>?_⟩
  rw [hr] at hj
  obtain rfl:j = i:=by simpa using hj
  unfold wpOp
  rw [hi]
  simp only [show Region.wanted oi (yielded ops a.tmps) = true by simp [Region.wanted,hg],if_true]
  exact .inl h
theorem done {l:Array Bool} {a:Act} {w:World} (hr:Region.ready md ops l = []) (h:Q .normal a w):any P md ops (fine Q) S k 0 l a w:=⟨hr,rfl,h⟩
theorem start {id:Nat} {a:Act} {w:World} (S:World->Prop) (k:Nat) (hm:P.follows .mixedOrders = true) (h:any P .any ops (fine Q) S k ops.size (Array.replicate ops.size false) a w.drew):(Code.region id ops true).wp P Q a w :=
  wp_mono (wp_region_any hm (any_plain _ _ _ _ h)) (fun e a w hq=>by obtain ⟨rfl,h⟩:=hq;exact h)
end Late
end Go.Proofs.YtggoccfddnpelaaGreat
namespace Go.Proofs.YtggoccfddnpelaaGreat
open Go.RowKit
set_option maxRecDepth 100000
variable {α:Type} {P:Program}
/-- The blocks that the outermost loop's body writes: the box of its variable, and the row that the variable has. -/
def Mine (Bx:Nat) (W:World) (k:Nat):Prop:=k = Bx∨∃ v,W.cell? ⟨Bx,0,none⟩ = some v/\v.ownBlock = some k
/-- The box is there. -/
def HasBox (Bx:Nat) (W:World):Prop:=∃ v,W.cell? ⟨Bx,0,none⟩ = some v/\∀ k,v.ownBlock = some k->k < W.heap.size
/-- What a round keeps. -/
structure Kp (Bx:Nat) (W W':World):Prop where
  os:W'.os = W.os
  tape:W'.tape = W.tape
  output:W'.output = W.output
  size:W.heap.size<=W'.heap.size
  box:HasBox Bx W->HasBox Bx W'
  keep:∀ k,k < W.heap.size->¬ Mine Bx W k->W'.heap[k]? = W.heap[k]?
  mine:∀ k,k < W.heap.size->Mine Bx W' k->Mine Bx W k
  others:∀ (k:Nat) (o:Obj),W.heap[k]? = some o->o.isCells = false->W'.heap[k]? = some o
theorem HasBox.lt {Bx:Nat} {W:World} (h:HasBox Bx W):Bx < W.heap.size:=by
  obtain ⟨v,hv,-⟩:=h
  exact World.block_lt_of_cell? _ _ hv
theorem HasBox.ne {Bx l:Nat} {W:World} {o:Obj} (h:HasBox Bx W) (hl:W.heap[l]? = some o) (ho:o.isCells = false):Bx≠l:=by
  rintro rfl
  obtain ⟨v,hv,-⟩:=h
  unfold World.cell? at hv
  rw [show W.heap[(⟨Bx,0,none⟩:Addr).block]? = some o from hl] at hv
  cases o <;> simp [Obj.isCells] at hv ho
theorem mine_same {Bx:Nat} {W W':World} (h:W'.heap[Bx]? = W.heap[Bx]?) (k:Nat):Mine Bx W' k ↔ Mine Bx W k:=by
  unfold Mine
  rw [World.cell?_of_block (a:=⟨Bx,0,none⟩) h]
theorem HasBox.up {Bx:Nat} {W W':World} (hb:HasBox Bx W) (h:W'.heap[Bx]? = W.heap[Bx]?) (hs:W.heap.size<=W'.heap.size):HasBox Bx W':=by
  obtain ⟨v,hv,hk⟩:=hb
  exact ⟨v,(World.cell?_of_block (a:=⟨Bx,0,none⟩) h).trans hv,fun k e=>Nat.lt_of_lt_of_le (hk k e) hs⟩
/-- What is laid since is none of the body's. -/
theorem HasBox.new {Bx:Nat} {W W':World} (hb:HasBox Bx W) (hg:W.grownBy W' none) {k:Nat} (hk:W.heap.size<=k):¬ Mine Bx W' k:=by
  have hlt:=hb.lt
  rw [mine_same (hg.block Bx hlt (by simp))]
  obtain ⟨v,hv,ho⟩:=hb
  rintro (rfl | ⟨u,hu,he⟩)
  · omega
  · rw [hv] at hu
    cases hu
    have:=ho k he
    omega
theorem Kp.refl (Bx:Nat) (W:World):Kp Bx W W:=⟨rfl,rfl,rfl,Nat.le_refl _,id,fun _ _ _=>rfl,fun _ _ h=>h,fun _ _ h _=>h⟩
theorem Kp.trans {Bx:Nat} {X Y Z:World} (h:Kp Bx X Y) (k:Kp Bx Y Z):Kp Bx X Z :=
  ⟨k.os.trans h.os,k.tape.trans h.tape,k.output.trans h.output,Nat.le_trans h.size k.size,fun b=>k.box (h.box b),
    fun i hi hn=>(k.keep i (Nat.lt_of_lt_of_le hi h.size) (fun hm=>hn (h.mine i hi hm))).trans (h.keep i hi hn),
    fun i hi hm=>h.mine i hi (k.mine i (Nat.lt_of_lt_of_le hi h.size) hm),fun i o hi ho=>k.others i o (h.others i o hi ho) ho⟩
theorem Kp.still {Bx:Nat} {W W':World} (hb:HasBox Bx W) (hg:W.grownBy W' none):Kp Bx W W' :=
  have e:=hg.block Bx hb.lt (by simp)
  ⟨hg.os,hg.tape,hg.output,hg.size,fun h=>h.up e hg.size,fun k hk _=>hg.block k hk (by simp),fun k _ hm=>(mine_same e k).1 hm,
    fun k o hk _=>(hg.block k (Array.getElem?_eq_some_iff.1 hk).1 (by simp)).trans hk⟩
theorem Kp.alloc {Bx:Nat} {W:World} (hb:HasBox Bx W) (o:Obj):Kp Bx W (W.alloc o):=Kp.still hb (World.grownBy_alloc W o none)
theorem Kp.cell {Bx:Nat} {W W':World} (h:Kp Bx W W') {k o:Nat} (hn:¬ Mine Bx W k) (hk:k < W.heap.size):W'.cell? ⟨k,o,none⟩ = W.cell? ⟨k,o,none⟩ :=
  World.cell?_of_block (a:=⟨k,o,none⟩) (h.keep k hk hn)
theorem Kp.safe {Bx:Nat} {W W':World} (h:Kp Bx W W') {k:Nat} (hn:¬ Mine Bx W k) (hk:k < W.heap.size):¬ Mine Bx W' k:=fun hm=>hn (h.mine k hk hm)
theorem kp_own {β:Type} {Bx B:Nat} {W0:World} (hb:HasBox Bx W0) (hB:W0.heap.size<=B):OwnFrom B (fun (_:β) W=>Kp Bx W0 W):=fun _ W W' row h hg hr=>by
  have hne:∀ k,k < W0.heap.size->some k≠row:=fun k hk e=>by have:=(hr k e.symm).1;omega
  have hbl:=hb.lt
  have e:W'.heap[Bx]? = W.heap[Bx]?:=hg.block Bx (Nat.lt_of_lt_of_le hbl h.size) (hne Bx hbl)
  refine ⟨hg.os.trans h.os,hg.tape.trans h.tape,hg.output.trans h.output,Nat.le_trans h.size hg.size,fun b=>(h.box b).up e hg.size,
    fun k hk hn=>(hg.block k (Nat.lt_of_lt_of_le hk h.size) (hne k hk)).trans (h.keep k hk hn),fun k hk hm=>h.mine k hk ((mine_same e k).1 hm),fun k o hk ho=>?_⟩
  have hk0:=(Array.getElem?_eq_some_iff.1 hk).1
  exact (hg.block k (Nat.lt_of_lt_of_le hk0 h.size) (hne k hk0)).trans (h.others k o hk ho)
/-- A round of which the record is busy in between. -/
theorem kp_round {Bx l:Nat} {W W3:World} {r r':Loop} (hne:Bx≠l) (hl:W.heap[l]? = some (.loop r)) (h:Kp Bx (W.putObj l (.loop r')) W3):Kp Bx W (W3.putObj l (.loop r)):=by
  have e1:(W.putObj l (.loop r')).heap[Bx]? = W.heap[Bx]?:=World.putObj_heap_other hne
  have e2:(W3.putObj l (.loop r)).heap[Bx]? = W3.heap[Bx]?:=World.putObj_heap_other hne
  have hs:W.heap.size<=W3.heap.size:=by have:=h.size;rwa [World.putObj_size] at this
  have hlt:l < W3.heap.size:=Nat.lt_of_lt_of_le (Array.getElem?_eq_some_iff.1 hl).1 hs
  refine ⟨h.os,h.tape,h.output,by rw [World.putObj_size];exact hs,fun b=>(h.box (b.up e1 (by rw [World.putObj_size];exact Nat.le_refl _))).up e2 (by rw [World.putObj_size];exact Nat.le_refl _),fun k hk hn=>?_,fun k hk hm=>?_,fun k o hk ho=>?_⟩
  · by_cases e : k = l
    · subst e
      rw [World.putObj_heap_same hlt,hl]
    · rw [World.putObj_heap_other e,h.keep k (by rw [World.putObj_size];exact hk) (fun hm=>hn ((mine_same e1 k).1 hm)),World.putObj_heap_other e]
  · exact (mine_same e1 k).1 (h.mine k (by rw [World.putObj_size];exact hk) ((mine_same e2 k).1 hm))
  · by_cases e : k = l
    · subst e
      rw [hl] at hk
      cases hk
      exact World.putObj_heap_same hlt
    · rw [World.putObj_heap_other e]
      exact h.others k o (by rw [World.putObj_heap_other e];exact hk) ho
/-- What a call of yield does, of the loop whose record is l: it goes on, or it is told to stop. -/
def Yields (P : Program) (l : Nat) (encs : α → Array Value) (Bx : Nat) (xs : List α) (J Jx : List α → World → Prop) : Prop :=
  ∀ (m : Nat) (pre : List α) (x : α) (W : World), pre ++ [x] <+: xs → J pre W → YieldAt Fence.wide m P l (encs x) W fun e W' =>
    (e = .returned (.bool true)/\J (pre ++ [x]) W'/\Kp Bx W W')∨(e = .returned (.bool false)/\Jx (pre ++ [x]) W'/\KeepsFrom (l + 1) W W')
/-- An iterator that hands xs over, one behind the other. -/
def SeqOwn (P : Program) (g : Nat) (lb : Array Value) (encs : α → Array Value) (Bx : Nat) (xs : List α) (w : World) : Prop :=
  ∀ (n l : Nat) (J Jx : List α → World → Prop) (W : World), w.grownBy W none → l < W.heap.size → OwnFrom W.heap.size J → OwnFrom W.heap.size Jx → Yields P l encs Bx xs J Jx → J [] W →
    CallsIn Fence.wide n P g (#[.func (.yield l) #[] #[]] ++ lb) W fun e W'=>(∃ v,e = .returned v)/\(J xs W'∨∃ pre,pre <+: xs/\Jx pre W')
/-- How a round's body is left. -/
def rgPost (B Bx:Nat) (I Ix:List α->World->Prop) (xs:List α) (W:World):Exit->Act->World->Prop
  | .normal,_,W'=>Kp Bx W W'/\I xs W'
  | .ret,_,W'=>KeepsFrom B W W'/\Ix xs W'
  | _,_,_=>False
theorem range_law {g : Operand} {ps : Array Tmp} {assign body : Code} {Q : Exit → Act → World → Prop} {a : Act} {w : World} {n gf : Nat} {lb : Array Value} {encs : α → Array Value} {Bx : Nat} {xs : List α}
    (hg:a.eval g = .func (.func gf) #[] lb) (eg:∀ args w,(callFunc gf args).run P w = .ok (.enter gf args) w) (hbx:HasBox Bx w) (hseq:SeqOwn P gf lb encs Bx xs w) (hps:∀ x,(encs x).size = ps.size)
    (I Ix:List α->World->Prop) (hI:OwnFrom w.heap.size I) (hIx:OwnFrom w.heap.size Ix) (h0:I [] w) (a₁:α->Act)
    (hassign:∀ (l m:Nat) (x:α) (W:World) (K:Act->World->Prop),K (a₁ x) W->assign.wpIn (Fence.wide.inRound l) m P (Exit.then K (fun _ _ _=>False)) { tmps:=(ps.zip (encs x)).foldl (fun t (p,v)=>t.setIfInBounds p v) a.tmps,defers:=[] } W)
    (hbody:∀ (l m:Nat) (pre:List α) (x:α) (W:World),w.heap.size<=l->pre ++ [x] <+: xs->I pre W->body.wpIn (Fence.wide.inRound l) m P (rgPost w.heap.size Bx I Ix (pre ++ [x]) W) (a₁ x) W)
    (hdone:∀ (D:Nat) (W:World),w.heap.size<=D->I xs W->W.heap[D]? = some (.deferred (some []))->Q .normal { a with defers:={ target:=.collected D,args:=#[] } :: a.defers } W)
    (hstop:∀ (D:Nat) (pre:List α) (W:World),w.heap.size<=D->pre <+: xs->Ix pre W->W.heap[D]? = some (.deferred (some []))->Code.ret.wpIn Fence.wide n P Q { a with defers:={ target:=.collected D,args:=#[] } :: a.defers } W) :
    (Code.rangeFunc g ps assign body).wpIn Fence.wide n P Q a w:=by
  refine wpIn_rangeFunc fun fn hfn=>?_
  obtain ⟨D,hD⟩:∃ D,w.heap.size = D:=⟨_,rfl⟩
  obtain ⟨rec,hrec⟩:∃ rec:LoopState->Option Code->Loop,rec = fun st pe=>{ state:=st,pending:=pe,fn,tmps:=a.tmps,params:=ps,assign,body,defers:=w.heap.size }:=⟨_,rfl⟩
  obtain ⟨V,hV⟩:∃ V,(w.alloc (.deferred (some []))).alloc (.loop (rec .ready none)) = V:=⟨_,rfl⟩
  have hgV:w.grownBy V none:=by rw [← hV];exact grown_trans (World.grownBy_alloc w _ none) (World.grownBy_alloc _ _ none)
  have hVs:V.heap.size = D + 2:=by rw [← hV];simp [hD]
  have hVl:V.heap[D + 1]? = some (.loop (rec .ready none)):=by
    rw [← hV]
    have:=World.alloc_heap_new (w.alloc (.deferred (some []))) (.loop (rec .ready none))
    rwa [World.size_alloc,hD] at this
  have hVd:V.heap[D]? = some (.deferred (some [])):=by
    rw [← hV,← hD]
    exact (Below.heap_alloc _ _ _ (by simp)).trans (World.alloc_heap_new w _)
  have hbl:=hbx.lt
  have hne:Bx≠D + 1:=by omega
  refine ⟨D + 1,[{ target:=.collected D,args:=#[] }],V,{ target:=.fn (.func gf) lb,args:=#[.func (.yield (D + 1)) #[] #[]] },V,gf,#[.func (.yield (D + 1)) #[] #[]] ++ lb,V,?_,?_,fun _ _=>trivial,?_,fun h=>(by cases h),?_⟩
  · rw [← hV, hrec, ← hD]
    exact run_enterLoop_outer _ _ _ _ _
  · simp only [resolve, hg]
    simp [go_sem]
  · simp [invoke,go_sem,eg]
  have own2:∀ {K:List α->World->Prop} {r:Loop},OwnFrom w.heap.size K->OwnFrom V.heap.size (fun pre W=>K pre W/\W.heap[D + 1]? = some (.loop r)/\W.heap[D]? = some (.deferred (some []))):=fun hK s A B row hs hg' hr=>by
    refine ⟨hK s A B row hs.1 hg' (fun r e=>?_),?_,?_⟩
    · obtain ⟨h1, h2⟩ := hr r e
      exact ⟨by omega,h2⟩
    · rw [hg'.block (D + 1) (Array.getElem?_eq_some_iff.1 hs.2.1).1 (fun e => by have := (hr _ e.symm).1; omega)]
      exact hs.2.1
    · rw [hg'.block D (Array.getElem?_eq_some_iff.1 hs.2.2).1 (fun e => by have := (hr _ e.symm).1; omega)]
      exact hs.2.2
  refine (hseq (n - 1) (D + 1) (fun pre W=>I pre W/\W.heap[D + 1]? = some (.loop (rec .ready none))/\W.heap[D]? = some (.deferred (some [])))
    (fun pre W=>Ix pre W/\W.heap[D + 1]? = some (.loop (rec .done (some .ret)))/\W.heap[D]? = some (.deferred (some []))) V hgV (by omega) (own2 hI) (own2 hIx) ?_ ⟨?_,hVl,hVd⟩).mono ?_
  · rintro m pre x W hpx ⟨hi, hl, hk⟩
    have hy:=run_yield (P:=P) (args:=encs x) hl (by rw [hrec];exact hps x)
    rw [hrec] at hy
    have hlt:=(Array.getElem?_eq_some_iff.1 hl).1
    refine ⟨fn,_,assign,body,hy,roundIn_of_wpIn hfn (hassign _ _ x W _ ⟨_,run_beginRound hl (by rw [hrec]),?_⟩)⟩
    clear hy
    have hl2:(W.putObj (D + 1) (.loop { rec .ready none with state:=.busy })).heap[D + 1]? = some (.loop { rec .ready none with state:=.busy }):=World.putObj_heap_same hlt
    have hk2:(W.putObj (D + 1) (.loop { rec .ready none with state:=.busy })).heap[D]? = some (.deferred (some [])):=(World.putObj_heap_other (by omega)).trans hk
    refine wpIn_mono (hbody _ _ pre x _ (by omega) hpx (hI.putObj _ hi (by omega) hl rfl)) ?_
    rintro e a3 W3 hp
    cases e with
    | normal =>
      obtain ⟨hk3,hi3⟩:=hp
      have hl3:=hk3.others _ _ hl2 rfl
      have hr:=run_endRound (P:=P) none hl3
      have hlt3:=(Array.getElem?_eq_some_iff.1 hl3).1
      have hk4:=hk3.others _ _ hk2 rfl
      have hk5:=kp_round (r:=rec .ready none) hne hl hk3
      have hi5:=hI.putObj (.loop (rec .ready none)) hi3 (by omega) hl3 rfl
      rw [hrec] at hr hk5 hi5 ⊢
      exact ⟨_,_,hr,.inl ⟨rfl,⟨hi5,World.putObj_heap_same hlt3,(World.putObj_heap_other (by omega)).trans hk4⟩,hk5⟩⟩
    | ret =>
      obtain ⟨hk3,hi3⟩:=hp
      have hl3:=hk3.same _ _ (by omega) hl2 rfl
      have hr:=run_endRound (P:=P) (some .ret) hl3
      have hlt3:=(Array.getElem?_eq_some_iff.1 hl3).1
      have hk4:=hk3.same _ _ (by omega) hk2 rfl
      have hi5:=hIx.putObj (.loop (rec .done (some .ret))) hi3 (by omega) hl3 rfl
      have hkf:∀ o',KeepsFrom (D + 1 + 1) W (W3.putObj (D + 1) o'):=fun o'=>⟨by
        have:=hk3.size
        rw [World.putObj_size] at this ⊢
        exact this,fun k o hB h1 h2=>by
        rw [World.putObj_heap_other (by omega)]
        exact hk3.same k o (by omega) (by rw [World.putObj_heap_other (by omega)];exact h1) h2⟩
      rw [hrec] at hr hi5 ⊢
      exact ⟨_,_,hr,.inr ⟨rfl,⟨hi5,World.putObj_heap_same hlt3,(World.putObj_heap_other (by omega)).trans hk4⟩,hkf _⟩⟩
    | exit id=>exact hp.elim
    | goto t=>exact hp.elim
    | panic ch=>exact hp.elim
    | outgrown=>exact hp.elim
  · exact hI [] w V none h0 hgV (fun r e=>by cases e)
  · rintro e W2 ⟨⟨v, rfl⟩, (⟨hi, hl, hk⟩ | ⟨pre, hpre, hi, hl, hk⟩)⟩
    · have hr := run_endLoop (P := P) hl (by rw [hrec]; simp)
      have hi5:=hI.putObj (.loop { rec .ready none with state:=.exhausted }) hi (by omega) hl rfl
      rw [hrec] at hr hi5
      exact ⟨none,_,hr,hdone D _ (by omega) hi5 ((World.putObj_heap_other (by omega)).trans hk)⟩
    · have hr := run_endLoop (P := P) hl (by rw [hrec]; simp)
      have hi5:=hIx.putObj (.loop { rec .done (some .ret) with state:=.exhausted }) hi (by omega) hl rfl
      rw [hrec] at hr hi5
      exact ⟨some .ret,_,hr,hstop D pre _ (by omega) hpre hi5 ((World.putObj_heap_other (by omega)).trans hk)⟩
/-- Marks of loops over iterators, each its own. -/
def marks (ds:List Nat):List Deferred:=ds.map fun D=>{ target:=.collected D,args:=#[] }
def Open (B:Nat) (ds:List Nat) (W:World):Prop:=ds.Nodup/\∀ D∈ds,B<=D/\W.heap[D]? = some (.deferred (some []))
theorem Open.cons {B D:Nat} {ds:List Nat} {w W:World} (h:Open B ds w) (hs:∀ D∈ds,W.heap[D]? = some (.deferred (some []))) (hD:B<=D) (hw:w.heap.size<=D) (hk:W.heap[D]? = some (.deferred (some []))):Open B (D :: ds) W:=by
  refine ⟨List.nodup_cons.2 ⟨fun hm=>?_,h.1⟩,fun E hE=>?_⟩
  · have := (Array.getElem?_eq_some_iff.1 (h.2 D hm).2).1
    omega
  · rcases List.mem_cons.1 hE with rfl | hE
    · exact ⟨hD,hk⟩
    · exact ⟨(h.2 E hE).1,hs E hE⟩
/-- At a function's end all its marks are taken, one behind the other. -/
theorem leaves_marks {n:Nat} {fn:Func} {tmps:Array Value} {R:Ending->World->Prop} {B:Nat} (K:World->Prop) (hK:OwnFrom B (fun (_:Unit) W=>K W)) (hend:∀ W,K W->LeavesInM Fence.wide n P fn tmps R [] .returning W) :
    ∀ (ds:List Nat) (W:World),Open B ds W->K W->LeavesInM Fence.wide n P fn tmps R (marks ds) .returning W
  | [],W,_,h=>hend W h
  | D :: ds, W, ho, h => by
    obtain ⟨hB,hk⟩:=ho.2 D (by simp)
    have hn:=List.nodup_cons.1 ho.1
    refine ⟨by simp,.inl ⟨D,_,rfl,run_takeDeferred hk,leaves_marks K hK hend ds _ ⟨hn.2,fun E hE=>?_⟩ (hK.putObj (s:=()) _ h hB hk rfl)⟩⟩
    obtain ⟨h1,h2⟩:=ho.2 E (by simp [hE])
    have hne:E≠D:=fun e=>hn.1 (by rw [← e];exact hE)
    exact ⟨h1,(World.putObj_heap_other hne).trans h2⟩
end Go.Proofs.YtggoccfddnpelaaGreat
