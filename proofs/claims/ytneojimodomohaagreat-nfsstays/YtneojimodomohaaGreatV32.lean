/- NPl, YMp, NKn, as one. -/
import Derived.Maps.OwnOps
import Derived.Test.YtneojimodomohaaGreatV24
set_option maxHeartbeats 8000000
set_option maxRecDepth 100000
namespace Go.Proofs.YtneojimodomohaaGreat
section
open It
namespace Sp
theorem ul_names {L:List Ino} {a b st:Int} {s:ByteArray} (h:ulE (chk isSp) L a b s st = 0):names (ulT (chk isSp) L a b s st) (ulH (chk isSp) L a b s st).1 (ulH (chk isSp) L a b s st).2 = true/\(ulH (chk isSp) L a b s st).1≠0:=by
  unfold ulT ulH;rw [if_pos h,if_pos h];unfold ulE at h
  by_cases hl:toErr (chk isSp) L st a b s = 0
  · rw [if_pos hl] at h
    obtain ⟨kc,xc,j,e,kt,xt,ha,hxc,hgc,hkc,hfc,hff,hp,hj,hH,hek,hk0,hxt,hgt,hkt0,hlt,hft,hit,hic,hr,hst,hlc⟩:=to_zero isSp_means hl;rw [hH,hit];refine ⟨names_iff.2 ⟨kt,linked xt (-1) st,?_,hek,hgt,hkt0⟩,by rw [hek];omega⟩;rw [hek,show ((kt:Int)).toNat = kt by omega,List.getElem?_set_self];unfold lessDir;rw [List.length_set];exact (List.getElem?_eq_some_iff.1 hxt).1
  · rw [if_neg hl] at h
    exact absurd h hl
end Sp
end
end Go.Proofs.YtneojimodomohaaGreat
namespace Go.Proofs.YtneojimodomohaaGreat.Ym
open Go.ChangeShapes Go.WideShapes Go.ChangeAt Go.RowKit Go.Deep
theorem check_int (w:World) (em:Bool) (x:Int):(Instr.checkKey em 10000 3 (.int .i64 x)).run Tryz.prog w = .ok () w:=by
 rw [show (10000:Nat) = 9999 + 1 from rfl];unfold Instr.checkKey;simp only [Sem.run_bind,run_underlying Tryz.underlying3,Result.andThen,Sem.run_pure]
structure IM (w:World) (r:Nat) (M:List (Int × Value)):Prop where
 out:∃ es clock,w.heap[r]? = some (.map es clock)/\es.toList.map (fun e=>(e.key,e.val)) = M.map (fun p=>(.int .i64 p.1,p.2))/\(es.toList.map (·.born)).Nodup/\∀ b∈es.toList.map (·.born),b < clock
def ifind:List (Int × Value)->Int->Nat->Option (Nat × Value)
 | [],_,_=>none
 | p :: M,h,i=>if h == p.1 then some (i,p.2) else ifind M h (i + 1)
def iset (M:List (Int × Value)) (h:Int) (v:Value):List (Int × Value):=match ifind M h 0 with | some p=>M.set p.1 (h,v) | none=>M ++ [(h,v)]
theorem ifind_some:∀ (M:List (Int × Value)) (h:Int) (i:Nat) (j:Nat) (v:Value),ifind M h i = some (j,v)->i<=j/\M[j - i]? = some (h,v)
 | [],_,_,_,_,e=>by cases e
 | p :: M, h, i, j, v, e => by
  unfold ifind at e
  by_cases hp:(h == p.1) = true
  ·rw [if_pos hp] at e
   cases e
   refine ⟨Nat.le_refl _,?_⟩;rw [Nat.sub_self,List.getElem?_cons_zero];have:h = p.1:=by simpa using hp
   rw [this]
  ·rw [if_neg hp] at e;obtain ⟨h1,h2⟩:=ifind_some M h (i + 1) j v e;refine ⟨by omega,?_⟩;rw [show j - i = (j - (i + 1)) + 1 by omega,List.getElem?_cons_succ];exact h2
theorem run_now (w:World) (h:Int):∀ (es:List MapEntry) (M:List (Int × Value)) (i:Nat),es.map (fun e=>(e.key,e.val)) = M.map (fun p=>(.int .i64 p.1,p.2))->Instr.findNow (.int .i64) (.int .i64 h) es i = some (ifind M h i)
 | [],[],i,_=>rfl
 | [],q :: M,i,he=>by simp at he
 | e :: es,[],i,he=>by simp at he
 | e :: es, q :: M, i, he => by
  simp only [List.map_cons,List.cons.injEq,Prod.mk.injEq] at he;obtain ⟨⟨hk,hv⟩,hr⟩:=he;unfold Instr.findNow ifind;rw [hk,hv];have hs:Instr.sameNow (.int .i64) (.int .i64 h) (.int .i64 q.1) = some (h == q.1):=by simp [Instr.sameNow]
  rw [hs]
  by_cases hp:(h == q.1) = true
  ·rw [hp];rfl
  ·rw [Bool.not_eq_true] at hp;rw [hp];simpa using run_now w h es M (i + 1) hr
theorem run_findInt (w:World) (h:Int) (es:List MapEntry) (M:List (Int × Value)) (he:es.map (fun e=>(e.key,e.val)) = M.map (fun p=>(.int .i64 p.1,p.2))):(Instr.findKey 3 (.int .i64 h) es).run Tryz.prog w = .ok (ifind M h 0) w:=by
 unfold Instr.findKey;simp only [Sem.run_bind,run_underlying Tryz.underlying3,Result.andThen];rw [run_now w h es M 0 he];rfl
section
variable {mt et:TypeId} (hmt:Tryz.prog.underlying mt = some (.map 3 et))
include hmt
theorem look_in {w:World} {r:Nat} {M:List (Int × Value)} (hm:IM w r M) {h:Int} {j:Nat} {v:Value} (hf:ifind M h 0 = some (j,v)) (ok:Bool):(Instr.lookup mt (.map (some r)) (.int .i64 h) ok).run Tryz.prog w = .ok (if ok then .tuple #[v,.bool true] else v) w:=by
 obtain ⟨es,clock,hr,he,_,_⟩:=hm.out;unfold Instr.lookup;simp only [Sem.run_bind,run_underlying hmt,Result.andThen,run_getObj_map w r es clock hr,Sem.run_pure,check_int,run_findInt w h es.toList M he,hf]
omit hmt
theorem stays_int (w:World) (h:Int):(Instr.keyThatStays (.int .i64 h) (.int .i64 h)).run Tryz.prog w = .ok (.int .i64 h) w:=by
 unfold Instr.keyThatStays;rw [if_pos (by simp [Instr.sameBits])];rfl
theorem run_setMap {w:World} {r:Nat} {es:Array MapEntry} {clock:Nat} (hr:w.heap[r]? = some (.map es clock)) (o:Obj):(setObj r o).run Tryz.prog w = .ok () (w.putObj r o):=by
 simp [setObj,Sem.run,hr,World.putObj]
theorem modify_map {β:Type} {es:Array MapEntry} {i:Nat} {e:MapEntry} (he:es[i]? = some e) (f:MapEntry->MapEntry) (g:MapEntry->β):(es.modify i f).toList.map g = (es.toList.map g).set i (g (f e)):=by
 refine List.ext_getElem? fun k=>?_
 have hi:i < es.size:=(qL he);rw [List.getElem?_map,Array.getElem?_toList,Array.getElem?_modify,List.getElem?_set]
 by_cases hk:i = k
 ·subst hk;rw [if_pos rfl,if_pos rfl,he];simp [hi]
 ·rw [if_neg hk,if_neg hk,List.getElem?_map,Array.getElem?_toList]
theorem set_same {β:Type} {l:List β} {i:Nat} {x:β} (h:l[i]? = some x):l.set i x = l:=by
 refine List.ext_getElem? fun k=>?_
 rw [List.getElem?_set];split
 ·rename_i e
  subst e;rw [h];simp [(qM h)]
 ·rfl
theorem im_row {es:Array MapEntry} {M:List (Int × Value)} (he:es.toList.map (fun e=>(e.key,e.val)) = M.map (fun p=>(.int .i64 p.1,p.2))) {i:Nat} {h:Int} {v:Value} (hi:M[i]? = some (h,v)):∃ e,es[i]? = some e/\e.key = .int .i64 h/\e.val = v:=by
 have h1:=congrArg (fun l=>l[i]?) he;simp only [List.getElem?_map,Array.getElem?_toList,hi,Option.map_some] at h1
 cases hx:es[i]? with
 | none=>rw [hx] at h1;cases h1
 | some e =>
  rw [hx] at h1;simp only [Option.map_some,Option.some.injEq,Prod.mk.injEq] at h1;exact ⟨e,rfl,h1.1,h1.2⟩
include hmt
theorem run_upd {w:World} {r:Nat} {M:List (Int × Value)} (hm:IM w r M) (h:Int) (v:Value) :
  ∃ w',(Instr.mapUpdate mt (.map (some r)) (.int .i64 h) v).run Tryz.prog w = .ok () w'/\IM w' r (iset M h v)/\w.grownBy w' (some r):=by
 obtain ⟨es,clock,hr,he,hn,hb⟩:=hm.out;have hlt:=(qL hr);unfold Instr.mapUpdate;simp only [Sem.run_bind,run_underlying hmt,Result.andThen,run_getObj_map w r es clock hr,check_int,run_findInt w h es.toList M he];unfold iset
 cases hf:ifind M h 0 with
 | none =>
  simp only [run_setMap hr];refine ⟨_,rfl,⟨_,_,World.putObj_heap_same hlt,?_,?_,?_⟩,grownBy_putObj' _ _ _⟩
  ·simp only [Array.toList_push,List.map_append,List.map_cons,List.map_nil,he]
  ·simp only [Array.toList_push,List.map_append,List.map_cons,List.map_nil];rw [List.nodup_append];refine ⟨hn,by simp,fun a ha b hb'=>?_⟩;simp at hb';have:=hb a ha;omega
  ·simp only [Array.toList_push,List.map_append,List.map_cons,List.map_nil];intro b hb';rcases List.mem_append.1 hb' with hb' | hb'
   ·have:=hb b hb';omega
   ·simp at hb';omega
 | some q =>
  obtain ⟨i,v0⟩:=q;obtain ⟨_,h2⟩:=ifind_some M h 0 i v0 hf;rw [Nat.sub_zero] at h2;obtain ⟨e,hei,hek,hev⟩:=im_row he h2;simp only [hei,Option.map_some,Option.getD_some,hek,Sem.run_bind,stays_int,Result.andThen,run_setMap hr];have hbn:(es.modify i fun e=>{ e with key:=.int .i64 h,val:=v }).toList.map (·.born) = es.toList.map (·.born):=by
   rw [modify_map hei];exact set_same (by rw [List.getElem?_map,Array.getElem?_toList,hei];rfl)
  refine ⟨_,rfl,⟨_,_,World.putObj_heap_same hlt,?_,by rw [hbn];exact hn,by rw [hbn];exact hb⟩,grownBy_putObj' _ _ _⟩;rw [modify_map hei,he,List.map_set]
omit hmt
include hmt
omit hmt
theorem IM.kept {w w':World} {r:Nat} {M:List (Int × Value)} (h:IM w r M) (hk:w'.heap[r]? = w.heap[r]?):IM w' r M:=by
 obtain ⟨es,clock,hr,h1⟩:=h.out;exact ⟨es,clock,hk.trans hr,h1⟩
theorem IM.lt {w:World} {r:Nat} {M:List (Int × Value)} (h:IM w r M):r < w.heap.size:=by
 obtain ⟨es,clock,hr,_⟩:=h.out;exact (qL hr)
theorem IM.new (w:World):IM (w.alloc (.map #[] 0)) w.heap.size []:=⟨#[],0,World.alloc_heap_new w _,rfl,by simp,fun b hb=>by simp at hb⟩
include hmt
omit hmt
end
section
variable {mt et:TypeId} (hmt:Tryz.prog.underlying mt = some (.map 3 et))
variable {ops:Array Oper} {rest:List Oper} {o:Oper} {a:Act} {Q:Exit->Act->World->Prop}
include hmt
omit hmt
end
end Go.Proofs.YtneojimodomohaaGreat.Ym
namespace Go.Proofs.YtneojimodomohaaGreat
section
open Go.ChangeShapes Go.WideShapes Go.ChangeAt Go.RowKit Go.Deep It
abbrev VFn (f B:Nat):Value:=.func (.func f) #[.pointer (some ⟨B,0,none⟩)] #[]
section
variable {mt et:TypeId} (hmt:Tryz.prog.underlying mt = some (.map 3 et))
variable {ops:Array Oper} {rest:List Oper} {o:Oper} {a:Act} {Q:Exit->Act->World->Prop}
include hmt
theorem wpList_ins (w:World) (hg:o.guard = none) (m x v:Operand) (hop:o.op = Op.insert mt m x v) (r:Nat) (M:List (Int × Value)) (h:Int) (u:Value) (hm:a.eval m = .map (some r)) (hx:a.eval x = .int .i64 h) (hv:a.eval v = u) (hM:Ym.IM w r M)
  (hK:∀ w',Ym.IM w' r (Ym.iset M h u)->w.grownBy w' (some r)->wpList Tryz.prog ops Q rest (a.put o.dst undef) w'):wpList Tryz.prog ops Q (o :: rest) a w:=by
 refine wpList_plain hg fun K' hK'=>?_
 obtain ⟨w',hrun,r1,r2⟩:=Ym.run_upd hmt hM h u;unfold Oper.wp;simp [execOp,hop,hm,hx,hv,hrun,Result.andThen];exact hK' _ _ (hK w' r1 r2)
end
theorem Nf.kmap_is (v1 v2 v3 v4 v5 v6 v7 v8 v9 v10 v11 v12 v13 v14:Value):(Ym.iset (Ym.iset (Ym.iset (Ym.iset (Ym.iset (Ym.iset (Ym.iset (Ym.iset (Ym.iset (Ym.iset (Ym.iset (Ym.iset (Ym.iset (Ym.iset [] 1 v1) 2 v2) 3 v3) 4 v4) 5 v5) 6 v6) 7 v7) 8 v8) 9 v9) 10 v10) 11 v11) 12 v12) 13 v13) 14 v14) = [(1,v1),(2,v2),(3,v3),(4,v4),(5,v5),(6,v6),(7,v7),(8,v8),(9,v9),(10,v10),(11,v11),(12,v12),(13,v13),(14,v14)]:=by
 simp [Ym.iset,Ym.ifind]
def Nf.kmap (B:Nat):List (Int × Value):=[(1,VFn 47 B),(2,VFn 48 B),(3,VFn 49 B),(4,VFn 50 B),(5,VFn 51 B),(6,VFn 52 B),(7,VFn 53 B),(8,VFn 54 B),(9,VFn 55 B),(10,VFn 56 B),(11,VFn 57 B),(12,VFn 58 B),(13,VFn 59 B),(14,VFn 60 B)]
theorem kinds_any (B:Nat) (w:World):Calls Tryz.prog 23 #[.pointer (some ⟨B,0,none⟩)] w fun e w'=>∃ r,e = .returned (.map (some r))/\w.heap.size<=r/\Ym.IM w' r (Nf.kmap B)/\Bw w w':=by
 have hmm:=@run_makeMap Tryz.prog;have HM:Hid _:=Ym.IM.new w;have HB:Hid (Bw w (w.alloc (.map #[] 0))):=qG _ _;obtain ⟨W,hW⟩:=qE (w.alloc (.map #[] 0));rw [hW] at HM HB;go_enter Tryz.func23,Tryz.ntmps23
 go_wp2_with ((with_reducible show wpList _ _ _ (⟨none,Op.insert _ _ _ _,_,_,_,_⟩ :: _) _ _);(try rw [hW]);(try clear hW);refine wpList_ins Tryz.underlying67 _ rfl _ _ _ (by rfl) w.heap.size _ _ (VFn _ B) (by rfl) (by rfl) (by rfl) HM.out ?_;intro x hm hg;replace HM:Hid (Ym.IM x w.heap.size _):=hm;replace HB:Hid (Bw w x):=HB.out.grown hg HB.out.size (fun k e=>by cases e;exact Nat.le_refl _);clear hm hg)
 go_ret;have hm:=HM.out;rw [Nf.kmap_is] at hm;exact ⟨_,rfl,Nat.le_refl _,hm,HB.out⟩
end
end Go.Proofs.YtneojimodomohaaGreat
