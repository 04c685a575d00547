/- OpenS, Mp, Fol0, SpT, as one. -/
import Derived.Maps.RangeRun
import Derived.Laws.IdiomRangeMap
import Derived.RangeFuncOwn
import Derived.Test.YtneojimodomohaaGreatV5
set_option maxHeartbeats 8000000
set_option maxRecDepth 100000
namespace Go.Proofs.YtneojimodomohaaGreat
section
open Go.ChangeShapes Go.WideShapes Go.ChangeAt Go.RowKit Go.Deep It
def SInoRead {H:Type} (w:World) (x:Rw) (d:DataW H):Prop:=AtW ER w (.slice x.rp x.rn x.rc) x.i.runs/\okFields x.i.runs/\AtW EE w (.slice x.ep x.en x.ec) x.i.ents/\(∀ e∈x.i.ents,e.1.size<=maxLen)/\∃ y0 y1 y2 y3 y4,d = .agg [y0,y1,y2,y3,y4]/\len2 y2 x.i.runs.length/\len2 y3 x.i.ents.length
abbrev VHh (h:Int × Int):Value:=.agg #[.int .i64 h.1,.int .i64 h.2]
theorem equal_hand (w:World) (a b:Int × Int):(Op.equal 28 (VHh a) (VHh b)).run Tryz.prog w = .ok (a == b) w:=by
 have h1:(binOp .eql 28 (VHh a) (VHh b)).run Tryz.prog w = .ok (.bool (a == b)) w:=by
  obtain ⟨a0,a1⟩:=a;obtain ⟨b0,b1⟩:=b;have e:((a0,a1) == (b0,b1)) = ((a0 == b0) && (a1 == b1)):=rfl;rw [e]
  cases h0:(a0 == b0) <;> cases h1:(a1 == b1) <;> go_simp <;> simp [h0,h1]
 have h2:(binOp .eql 28 (VHh a) (VHh b)).run Tryz.prog w = ((Op.equal 28 (VHh a) (VHh b)).run Tryz.prog w).andThen fun r w'=>.ok (.bool r) w':=by
  unfold binOp;simp only [Sem.run_bind,Sem.run_pure]
 rw [h1] at h2;generalize (Op.equal 28 (VHh a) (VHh b)).run Tryz.prog w = r at h2
 cases r with
 | ok x w' =>
  simp only [Result.andThen,Result.ok.injEq,Value.bool.injEq] at h2;rw [h2.1,h2.2]
 | halt x w'=>cases h2
theorem check_hand (w:World) (em:Bool) (a:Int × Int):(Instr.checkKey em 10000 28 (VHh a)).run Tryz.prog w = .ok () w:=by
 have h3:∀ x:Int,(Instr.checkKey em 9999 3 (.int .i64 x)).run Tryz.prog w = .ok () w:=fun x=>by
  rw [show (9999:Nat) = 9998 + 1 from rfl];unfold Instr.checkKey;simp only [Sem.run_bind,run_underlying Tryz.underlying3,Result.andThen,Sem.run_pure]
 have p0:(part 3 #[.int .i64 a.1,.int .i64 a.2] 0).run Tryz.prog w = .ok (.int .i64 a.1) w:=by go_simp
 have p1:(part 3 #[.int .i64 a.1,.int .i64 a.2] 1).run Tryz.prog w = .ok (.int .i64 a.2) w:=by go_simp
 rw [show (10000:Nat) = 9999 + 1 from rfl];unfold Instr.checkKey;simp only [Sem.run_bind,run_underlying Tryz.underlying28,Result.andThen];simp only [List.forIn_toArray,List.forIn_cons,List.forIn_nil];simp [h3,p0,p1,Sem.run_bind,Result.andThen]
structure HM (w:World) (r:Nat) (M:List ((Int × Int) × Int)):Prop where
 out:∃ es clock,w.heap[r]? = some (.map es clock)/\es.toList.map (fun e=>(e.key,e.val)) = M.map (fun p=>(VHh p.1,.int .i64 p.2))/\(es.toList.map (·.born)).Nodup/\∀ b∈es.toList.map (·.born),b < clock
def mfind:List ((Int × Int) × Int)->(Int × Int)->Nat->Option (Nat × Int)
 | [],_,_=>none
 | p :: M,h,i=>if h == p.1 then some (i,p.2) else mfind M h (i + 1)
def mval (M:List ((Int × Int) × Int)) (h:Int × Int):Int:=match mfind M h 0 with | some p=>p.2 | none=>0
def mset (M:List ((Int × Int) × Int)) (h:Int × Int) (v:Int):List ((Int × Int) × Int):=match mfind M h 0 with | some p=>M.set p.1 (h,v) | none=>M ++ [(h,v)]
theorem mfind_some:∀ (M:List ((Int × Int) × Int)) (h:Int × Int) (i:Nat) (j:Nat) (v:Int),mfind M h i = some (j,v)->i<=j/\M[j - i]? = some (h,v)
 | [],_,_,_,_,e=>by cases e
 | p :: M, h, i, j, v, e => by
  unfold mfind at e
  by_cases hp:(h == p.1) = true
  ·rw [if_pos hp] at e
   cases e
   refine ⟨Nat.le_refl _,?_⟩;rw [Nat.sub_self,List.getElem?_cons_zero];have:h = p.1:=by simpa using hp
   rw [this]
  ·rw [if_neg hp] at e;obtain ⟨h1,h2⟩:=mfind_some M h (i + 1) j v e;refine ⟨by omega,?_⟩;rw [show j - i = (j - (i + 1)) + 1 by omega,List.getElem?_cons_succ];exact h2
theorem mfind_none:∀ (M:List ((Int × Int) × Int)) (h:Int × Int) (i:Nat),mfind M h i = none->∀ p∈M,p.1≠h
 | [],_,_,_,p,hp=>by cases hp
 | q :: M, h, i, e, p, hp => by
  unfold mfind at e
  by_cases hq:(h == q.1) = true
  ·rw [if_pos hq] at e
   cases e
  ·rw [if_neg hq] at e;rcases List.mem_cons.1 hp with rfl | hp
   ·intro e2;exact hq (by simp [e2])
   ·exact mfind_none M h (i + 1) e p hp
theorem mfind_mem {M:List ((Int × Int) × Int)} (hn:(M.map (·.1)).Nodup) {p:(Int × Int) × Int} (hp:p∈M):∃ j,mfind M p.1 0 = some (j,p.2):=by
 cases e:mfind M p.1 0 with
 | none=>exact absurd rfl (mfind_none M p.1 0 e p hp)
 | some q =>
  obtain ⟨j,v⟩:=q;obtain ⟨_,h2⟩:=mfind_some M p.1 0 j v e;obtain ⟨k,hk⟩:=List.mem_iff_getElem?.1 hp;have hj:=(qM h2);have hkl:=(qM hk);have:j = k:=by
   have h3:(M.map (·.1))[j]? = (M.map (·.1))[k]?:=by
    rw [List.getElem?_map,List.getElem?_map,hk];rw [Nat.sub_zero] at h2;rw [h2];rfl
   exact (List.getElem?_inj (by rw [List.length_map];simpa using hj) hn).1 h3
  subst this;rw [Nat.sub_zero,hk] at h2;have hv:p.2 = v:=congrArg Prod.snd (Option.some.inj h2);exact ⟨j,by rw [hv]⟩
theorem mval_mem {M:List ((Int × Int) × Int)} (hn:(M.map (·.1)).Nodup) {p:(Int × Int) × Int} (hp:p∈M):mval M p.1 = p.2:=by
 obtain ⟨j,hj⟩:=mfind_mem hn hp;unfold mval;rw [hj]
theorem mval_out {M:List ((Int × Int) × Int)} {h:Int × Int} (hp:∀ p∈M,p.1≠h):mval M h = 0:=by
 unfold mval
 cases e:mfind M h 0 with
 | none=>rfl
 | some q =>
  obtain ⟨_,h2⟩:=mfind_some M h 0 q.1 q.2 e;exact absurd rfl (hp _ (List.mem_of_getElem? h2))
theorem mset_keys {M:List ((Int × Int) × Int)} (hn:(M.map (·.1)).Nodup) (h:Int × Int) (v:Int):((mset M h v).map (·.1)).Nodup/\(∀ g u,(g,u)∈mset M h v ↔ (g = h/\u = v)∨(g≠h/\(g,u)∈M)):=by
 unfold mset
 cases e:mfind M h 0 with
 | none =>
  have hno:=mfind_none M h 0 e;simp only;constructor
  ·rw [List.map_append,List.nodup_append];refine ⟨hn,by simp,fun a ha b hb=>?_⟩;obtain ⟨p,hp,rfl⟩:=List.mem_map.1 ha;simp at hb;subst hb;exact hno p hp
  ·intro g u;rw [List.mem_append,List.mem_singleton,Prod.mk.injEq];constructor
   ·rintro (h1 | h1)
    ·exact .inr ⟨hno _ h1,h1⟩
    ·exact .inl h1
   ·rintro (h1 | h1)
    ·exact .inr h1
    ·exact .inl h1.2
 | some q =>
  obtain ⟨j,u0⟩:=q;obtain ⟨_,h2⟩:=mfind_some M h 0 j u0 e;rw [Nat.sub_zero] at h2;have hj:=(qM h2);have he:=(List.getElem?_eq_some_iff.1 h2).2;simp only;have hmap:(M.set j (h,v)).map (·.1) = M.map (·.1):=by
   rw [List.map_set];refine List.ext_getElem? fun k=>?_
   rw [List.getElem?_set];split
   ·rename_i hjk
    subst hjk;rw [List.getElem?_map,h2];simp [hj]
   ·rfl
  refine ⟨by rw [hmap];exact hn,fun g u=>?_⟩;constructor
  ·intro hm;obtain ⟨k,hk⟩:=List.mem_iff_getElem?.1 hm;rw [List.getElem?_set] at hk;split at hk
   ·(try rw [if_pos (by omega)] at hk)
    cases hk
    exact .inl ⟨rfl,rfl⟩
   ·rename_i hne
    refine .inr ⟨fun eg=>hne ?_,List.mem_of_getElem? hk⟩;subst eg;have h3:(M.map (·.1))[j]? = (M.map (·.1))[k]?:=by rw [List.getElem?_map,List.getElem?_map,h2,hk];rfl
    exact (List.getElem?_inj (by rw [List.length_map];exact hj) hn).1 h3
  ·rintro (⟨rfl,rfl⟩ | ⟨hne,hm⟩)
   ·exact List.mem_of_getElem? (i:=j) (by rw [List.getElem?_set_self (by omega)])
   ·obtain ⟨k,hk⟩:=List.mem_iff_getElem?.1 hm;refine List.mem_of_getElem? (i:=k) ?_;rw [List.getElem?_set_ne (fun ejk=>?_)]
    ·exact hk
    ·subst ejk;rw [h2] at hk
     cases hk
     exact hne rfl
theorem mval_set {M:List ((Int × Int) × Int)} (hn:(M.map (·.1)).Nodup) (h:Int × Int) (v:Int) (g:Int × Int):mval (mset M h v) g = if g = h then v else mval M g:=by
 obtain ⟨h1,h2⟩:=mset_keys hn h v
 by_cases e:g = h
 ·rw [if_pos e];exact mval_mem h1 (p:=(g,v)) ((h2 g v).2 (.inl ⟨e,rfl⟩))
 ·rw [if_neg e]
  by_cases hm:∃ u,(g,u)∈M
  ·obtain ⟨u,hu⟩:=hm;rw [mval_mem hn (p:=(g,u)) hu,mval_mem h1 (p:=(g,u)) ((h2 g u).2 (.inr ⟨e,hu⟩))]
  ·have a1:mval M g = 0:=mval_out (fun p hp ep=>hm ⟨p.2,by rw [← ep];exact hp⟩);have a2:mval (mset M h v) g = 0:=mval_out (fun p hp ep=>by
    subst ep;rcases (h2 p.1 p.2).1 hp with h3 | h3
    ·exact e h3.1
    ·exact hm ⟨p.2,h3.2⟩)
   rw [a1,a2]
theorem run_asking (w:World) (h:Int × Int):∀ (es:List MapEntry) (M:List ((Int × Int) × Int)) (i:Nat),es.map (fun e=>(e.key,e.val)) = M.map (fun p=>(VHh p.1,Value.int .i64 p.2))->(Instr.findAsking 28 (VHh h) es i).run Tryz.prog w = .ok ((mfind M h i).map fun p=>(p.1,.int .i64 p.2)) w
 | [],[],i,_=>rfl
 | [],q :: M,i,he=>by simp at he
 | e :: es,[],i,he=>by simp at he
 | e :: es, q :: M, i, he => by
  simp only [List.map_cons,List.cons.injEq,Prod.mk.injEq] at he;obtain ⟨⟨hk,hv⟩,hr⟩:=he;unfold Instr.findAsking;rw [hk,hv];simp only [Sem.run_bind,equal_hand,Result.andThen];unfold mfind
  by_cases hp:(h == q.1) = true
  ·rw [if_pos hp,if_pos hp];rfl
  ·rw [if_neg hp,if_neg hp];exact run_asking w h es M (i + 1) hr
theorem run_findKey (w:World) (h:Int × Int) (es:List MapEntry) (M:List ((Int × Int) × Int)) (he:es.map (fun e=>(e.key,e.val)) = M.map (fun p=>(VHh p.1,Value.int .i64 p.2))):(Instr.findKey 28 (VHh h) es).run Tryz.prog w = .ok ((mfind M h 0).map fun p=>(p.1,.int .i64 p.2)) w:=by
 unfold Instr.findKey;simp only [Sem.run_bind,run_underlying Tryz.underlying28,Result.andThen]
 cases es with
 | nil =>
  cases M with
  | nil=>rfl
  | cons q M=>simp at he
 | cons e es =>
  have hk:e.key = VHh (M.head?.map (·.1) |>.getD (0,0)):=by
   cases M with
   | nil=>simp at he
   | cons q M =>
    simp only [List.map_cons,List.cons.injEq,Prod.mk.injEq] at he;simpa using he.1.1
  have hn:∀ d,(∃ fs,d = TypeDesc.struct fs)->Instr.findNow d (VHh h) (e :: es) 0 = none:=fun d ⟨fs,hd⟩=>by
   subst hd;unfold Instr.findNow;rw [hk];rfl
  rw [hn _ ⟨_,rfl⟩];exact run_asking w h (e :: es) M 0 he
theorem run_lookup {w:World} {r:Nat} {M:List ((Int × Int) × Int)} (hm:HM w r M) (h:Int × Int):(Instr.lookup 168 (.map (some r)) (VHh h) false).run Tryz.prog w = .ok (.int .i64 (mval M h)) w:=by
 obtain ⟨es,clock,hr,he,_,_⟩:=hm.out;unfold Instr.lookup;simp only [Sem.run_bind,run_underlying Tryz.underlying168,Result.andThen,run_getObj_map w r es clock hr,Sem.run_pure,check_hand,run_findKey w h es.toList M he];unfold mval
 cases mfind M h 0 with
 | none =>
  simp only [Option.map_none,Sem.run_bind,Sem.run_pure,Result.andThen]
  go_simp
 | some p =>
  simp only [Option.map_some,Sem.run_bind,Sem.run_pure,Result.andThen];rfl
theorem same_hand (h:Int × Int):Instr.sameBits 10000 (VHh h) (VHh h) = true:=by
 rw [show (10000:Nat) = 9999 + 1 from rfl];simp [Instr.sameBits]
theorem stays_hand (w:World) (h:Int × Int):(Instr.keyThatStays (VHh h) (VHh h)).run Tryz.prog w = .ok (VHh h) w:=by
 unfold Instr.keyThatStays;rw [if_pos (same_hand h)];rfl
theorem run_setMap {w:World} {r:Nat} {es:Array MapEntry} {clock:Nat} (hr:w.heap[r]? = some (.map es clock)) (o:Obj):(setObj r o).run Tryz.prog w = .ok () (w.putObj r o):=by
 simp [setObj,Sem.run,hr,World.putObj]
theorem modify_map {β:Type} {es:Array MapEntry} {i:Nat} {e:MapEntry} (he:es[i]? = some e) (f:MapEntry->MapEntry) (g:MapEntry->β):(es.modify i f).toList.map g = (es.toList.map g).set i (g (f e)):=by
 refine List.ext_getElem? fun k=>?_
 have hi:i < es.size:=(qL he);rw [List.getElem?_map,Array.getElem?_toList,Array.getElem?_modify,List.getElem?_set]
 by_cases hk:i = k
 ·subst hk;rw [if_pos rfl,if_pos rfl,he];simp [hi]
 ·rw [if_neg hk,if_neg hk,List.getElem?_map,Array.getElem?_toList]
theorem set_same {β:Type} {l:List β} {i:Nat} {x:β} (h:l[i]? = some x):l.set i x = l:=by
 refine List.ext_getElem? fun k=>?_
 rw [List.getElem?_set];split
 ·rename_i e
  subst e;rw [h];simp [(qM h)]
 ·rfl
theorem hm_row {es:Array MapEntry} {M:List ((Int × Int) × Int)} (he:es.toList.map (fun e=>(e.key,e.val)) = M.map (fun p=>(VHh p.1,Value.int .i64 p.2))) {i:Nat} {h:Int × Int} {v:Int} (hi:M[i]? = some (h,v)):∃ e,es[i]? = some e/\e.key = VHh h/\e.val = .int .i64 v:=by
 have h1:=congrArg (fun l=>l[i]?) he;simp only [List.getElem?_map,Array.getElem?_toList,hi,Option.map_some] at h1
 cases hx:es[i]? with
 | none=>rw [hx] at h1;cases h1
 | some e =>
  rw [hx] at h1;simp only [Option.map_some,Option.some.injEq,Prod.mk.injEq] at h1;exact ⟨e,rfl,h1.1,h1.2⟩
theorem run_update {w:World} {r:Nat} {M:List ((Int × Int) × Int)} (hm:HM w r M) (h:Int × Int) (v:Int) :
  ∃ w',(Instr.mapUpdate 168 (.map (some r)) (VHh h) (.int .i64 v)).run Tryz.prog w = .ok () w'/\HM w' r (mset M h v)/\w.grownBy w' (some r):=by
 obtain ⟨es,clock,hr,he,hn,hb⟩:=hm.out;have hlt:=(qL hr);unfold Instr.mapUpdate;simp only [Sem.run_bind,run_underlying Tryz.underlying168,Result.andThen,run_getObj_map w r es clock hr,check_hand,run_findKey w h es.toList M he];unfold mset
 cases hf:mfind M h 0 with
 | none =>
  simp only [Option.map_none,run_setMap hr];refine ⟨_,rfl,⟨_,_,World.putObj_heap_same hlt,?_,?_,?_⟩,grownBy_putObj' _ _ _⟩
  ·simp only [Array.toList_push,List.map_append,List.map_cons,List.map_nil,he]
  ·simp only [Array.toList_push,List.map_append,List.map_cons,List.map_nil];rw [List.nodup_append];refine ⟨hn,by simp,fun a ha b hb'=>?_⟩;simp at hb';have:=hb a ha;omega
  ·simp only [Array.toList_push,List.map_append,List.map_cons,List.map_nil];intro b hb';rcases List.mem_append.1 hb' with hb' | hb'
   ·have:=hb b hb';omega
   ·simp at hb';omega
 | some q =>
  obtain ⟨i,v0⟩:=q;obtain ⟨_,h2⟩:=mfind_some M h 0 i v0 hf;rw [Nat.sub_zero] at h2;obtain ⟨e,hei,hek,hev⟩:=hm_row he h2;simp only [Option.map_some,hei,Option.getD_some,hek,Sem.run_bind,stays_hand,Result.andThen,run_setMap hr];have hbn:(es.modify i fun e=>{ e with key:=VHh h,val:=.int .i64 v }).toList.map (·.born) = es.toList.map (·.born):=by
   rw [modify_map hei];exact set_same (by rw [List.getElem?_map,Array.getElem?_toList,hei];rfl)
  refine ⟨_,rfl,⟨_,_,World.putObj_heap_same hlt,?_,by rw [hbn];exact hn,by rw [hbn];exact hb⟩,grownBy_putObj' _ _ _⟩;rw [modify_map hei,he,List.map_set]
theorem putObj_same {w:World} {r:Nat} {o:Obj} (h:w.heap[r]? = some o):w.putObj r o = w:=by
 obtain ⟨hl,he⟩:=Array.getElem?_eq_some_iff.1 h;unfold World.putObj
 congr 1
 refine Array.ext (by simp) fun i h1 h2=>?_
 rw [Array.getElem_setIfInBounds];split
 ·rename_i e
  subst e;exact he.symm
 ·rfl
theorem run_entry {w:World} {r:Nat} {M:List ((Int × Int) × Int)} (hm:HM w r M) {h:Int × Int} {i:Nat} {v:Int} (hf:mfind M h 0 = some (i,v)) :
  ∃ s:Nat,(∀ w',HM w' r M->w'.heap[r]? = w.heap[r]?->(Instr.mapEntry 168 (.map (some r)) (VHh h)).run Tryz.prog w' = .ok (.tuple #[.int .i64 v,.int .i64 s]) w') /\
   ∀ w' u,w'.heap[r]? = w.heap[r]?->∃ w'',(Instr.entryStore 168 (.map (some r)) (.int .i64 s) (.int .i64 u)).run Tryz.prog w' = .ok () w''/\HM w'' r (mset M h u)/\w'.grownBy w'' (some r):=by
 obtain ⟨es,clock,hr,he,hn,hb⟩:=hm.out;obtain ⟨_,h2⟩:=mfind_some M h 0 i v hf;rw [Nat.sub_zero] at h2;obtain ⟨e,hei,hek,hev⟩:=hm_row he h2;have hi:i < es.size:=(qL hei);refine ⟨e.born,fun w' _ hw=>?_,fun w' u hw=>?_⟩
 ·have hr':=hw.trans hr;have hes:(es.modify i fun e=>{ e with key:=VHh h }) = es:=by
   refine Array.ext' ?_;have:=modify_map hei (fun e=>{ e with key:=VHh h }) id;rw [List.map_id,List.map_id] at this;rw [this];refine set_same ?_;rw [Array.getElem?_toList,hei];rw [← hek];rfl
  unfold Instr.mapEntry;simp only [Sem.run_bind,run_underlying Tryz.underlying168,Result.andThen,run_getObj_map w' r es clock hr',check_hand,run_findKey w' h es.toList M he,hf,Option.map_some,hei,Option.getD_some,hek,stays_hand,run_setMap hr',hes,putObj_same hr',Sem.run_pure];rfl
 ·have hr':=hw.trans hr;have hlt:=(qL hr');have hidx:es.findIdx? (fun x=>(x.born:Int) == (e.born:Int)) = some i:=by
   rw [Array.findIdx?_eq_some_iff_getElem];refine ⟨hi,?_,fun j hj=>?_⟩
   ·rw [(Array.getElem?_eq_some_iff.1 hei).2];simp
   ·intro hc;have hc':(es[j]'(by omega)).born = e.born:=by
     have h0:((es[j]'(by omega)).born:Int) = (e.born:Int):=by simpa using hc
     omega
    have h3:(es.toList.map (·.born))[j]? = (es.toList.map (·.born))[i]?:=by
     rw [List.getElem?_map,List.getElem?_map,Array.getElem?_toList,Array.getElem?_toList,hei,Array.getElem?_eq_getElem (by omega)];simp [hc']
    have:=(List.getElem?_inj (by rw [List.length_map,Array.length_toList];omega) hn).1 h3;omega
  unfold Instr.entryStore;simp only [Sem.run_bind,Result.andThen,run_getObj_map w' r es clock hr',asInt,asIntOf,Sem.run_pure,hidx,run_setMap hr'];have hbn:(es.modify i fun e=>{ e with val:=.int .i64 u }).toList.map (·.born) = es.toList.map (·.born):=by
   rw [modify_map hei];exact set_same (by rw [List.getElem?_map,Array.getElem?_toList,hei];rfl)
  refine ⟨_,rfl,⟨_,_,World.putObj_heap_same hlt,?_,by rw [hbn];exact hn,by rw [hbn];exact hb⟩,grownBy_putObj' _ _ _⟩;unfold mset;rw [hf,modify_map hei,he,List.map_set,hek]
structure HR (w:World) (r t:Nat) (M:List ((Int × Int) × Int)) (es:Array MapEntry) (seen:Array Nat):Prop where
 rows:es.toList.map (fun e=>(e.key,e.val)) = M.map (fun p=>(VHh p.1,Value.int .i64 p.2))
 born:(es.toList.map (·.born)).Nodup
 it:∃ clock,w.heap[r]? = some (.map es clock)/\w.heap[t]? = some (.mapIter (some r) clock seen clock)/\∀ b∈es.toList.map (·.born),b < clock
def leftM (es:Array MapEntry) (seen:Array Nat):List MapEntry:=es.toList.filter fun e=>!seen.contains e.born
theorem run_range {w:World} {r:Nat} {M:List ((Int × Int) × Int)} (hm:HM w r M) :
  ∃ es clock,(Instr.range 168 (.map (some r))).run Tryz.prog w = .ok (.pointer (some ⟨w.heap.size,0,none⟩)) (w.alloc (.mapIter (some r) clock #[] clock))/\HR (w.alloc (.mapIter (some r) clock #[] clock)) r w.heap.size M es #[]:=by
 obtain ⟨es,clock,hr,he,hn,hb⟩:=hm.out;refine ⟨es,clock,?_,he,hn,clock,(Below.heap_alloc _ _ _ (qL hr)).trans hr,World.alloc_heap_new w _,hb⟩;unfold Instr.range;simp only [Sem.run_bind,run_underlying Tryz.underlying168,Result.andThen,run_getObj_map w r es clock hr,Sem.run_pure,run_newObj_alloc]
theorem run_next {w:World} {r t:Nat} {M:List ((Int × Int) × Int)} {es:Array MapEntry} {seen:Array Nat} (h:HR w r t M es seen) (ty:TypeId) :
  (leftM es seen = []/\(Instr.next (.pointer (some ⟨t,0,none⟩)) false ty).run Tryz.prog w = .ok (.tuple #[.bool false]) w) ∨
  ∃ e,e∈leftM es seen/\∃ p∈M,e.key = VHh p.1/\e.val = .int .i64 p.2/\∃ w',(Instr.next (.pointer (some ⟨t,0,none⟩)) false ty).run Tryz.prog w = .ok (.tuple #[.bool true,VHh p.1,.int .i64 p.2]) w'/\HR w' r t M es (seen.push e.born)/\w.grownBy w' (some t) /\
   (Instr.entry (.pointer (some ⟨t,0,none⟩))).run Tryz.prog w' = .ok (.tuple #[VHh p.1,.int .i64 p.2]) w':=by
 obtain ⟨clock,hr,ht,hb⟩:=h.it;have hlt:=(qL ht);have hrt:r≠t:=fun e=>by rw [e,ht] at hr;cases hr
 rcases run_next_at (P:=Tryz.prog) w ty t r clock clock seen es clock ht hr (fun x hx=>hb x.born (List.mem_map.2 ⟨x,hx,rfl⟩)) (Nat.le_refl _) with ⟨h0,hrun⟩ | ⟨e,he,w1,hw1,hrun⟩
 ·refine .inl ⟨?_,hrun⟩;unfold leftM;have:(leftOf es seen).toList = []:=by rw [← List.length_eq_zero_iff,Array.length_toList];exact h0
  simpa [leftOf] using this
 ·have hel:e∈leftM es seen:=by
   unfold leftM;simpa [leftOf] using he
  have hee:e∈es.toList:=(List.mem_filter.1 hel).1;obtain ⟨p,hp,hpe⟩:∃ p∈M,(VHh p.1,Value.int .i64 p.2) = (e.key,e.val):=by
   have:(e.key,e.val)∈M.map (fun p=>(VHh p.1,Value.int .i64 p.2)):=by rw [← h.rows];exact List.mem_map.2 ⟨e,hee,rfl⟩
   obtain ⟨p,hp,hq⟩:=List.mem_map.1 this;exact ⟨p,hp,hq⟩
  simp only [Prod.mk.injEq] at hpe;have hk1:∀ k:Nat,w1.heap[k]? = w.heap[k]?:=fun k=>by rcases hw1 with rfl | rfl <;> rfl
  have hset:∀ k:Nat,k≠t->(ChangeMaps.setBlock w1 t (.mapIter (some r) clock (seen.push e.born) clock)).heap[k]? = w.heap[k]?:=fun k hk=>by
   unfold ChangeMaps.setBlock;rw [Array.getElem?_setIfInBounds_ne (Ne.symm hk)];exact hk1 k
  have hself:(ChangeMaps.setBlock w1 t (.mapIter (some r) clock (seen.push e.born) clock)).heap[t]? = some (.mapIter (some r) clock (seen.push e.born) clock):=by
   unfold ChangeMaps.setBlock;have:t < w1.heap.size:=by rcases hw1 with rfl | rfl <;> exact hlt
   simp [this]
  refine .inr ⟨e,hel,p,hp,hpe.1.symm,hpe.2.symm,_,by rw [hrun,hpe.1,hpe.2],⟨h.rows,h.born,clock,(hset r hrt).trans hr,hself,hb⟩,⟨?_,?_,?_,?_,fun k hk hne=>hset k (fun e=>hne (by rw [e]))⟩,?_⟩
  ·rcases hw1 with rfl | rfl <;> rfl
  ·rcases hw1 with rfl | rfl <;> rfl
  ·rcases hw1 with rfl | rfl <;> rfl
  ·rcases hw1 with rfl | rfl <;> simp [ChangeMaps.setBlock]
  ·rw [hpe.1,hpe.2];exact run_entry_at _ t r clock seen es clock e hself ((hset r hrt).trans hr) hee h.born
theorem leftM_less {es:Array MapEntry} {seen:Array Nat} {e:MapEntry} (h:e∈leftM es seen):(leftM es (seen.push e.born)).length < (leftM es seen).length:=by
 unfold leftM at h ⊢;have hsub:(es.toList.filter fun x=>!(seen.push e.born).contains x.born) = ((es.toList.filter fun x=>!seen.contains x.born).filter fun x=>!(x.born == e.born)):=by
  rw [List.filter_filter];refine List.filter_congr fun x _=>?_
  simp
  cases hb:decide (x.born∈seen) <;> by_cases hx:x.born = e.born <;> simp_all
 rw [hsub];refine Nat.lt_of_le_of_ne (List.length_filter_le _ _) (fun hl=>?_);have:=(List.length_filter_eq_length_iff.1 hl) e h;simp at this
end
section
open It
namespace Sp
abbrev En:=ByteArray × Int × Int × Int
def entsAt (L:List Ino) (no:Nat):List En:=match L[no]? with | some x=>x.ents | none=>[]
def dirAt (L:List Ino) (no:Nat):Bool:=match L[no]? with | some x=>x.kind == 2 | none=>false
def way (p:ByteArray) (s:ByteArray):ByteArray:=p ++ ⟨#[47]⟩ ++ s
/-- A folder, then the folders below it. -/
def walk (L:List Ino):Nat->Nat->ByteArray->List (Nat × ByteArray)
  | 0,_,_=>[]
  | f + 1,no,path=>(no,path) :: (entsAt L no).flatMap fun e=>if dirAt L e.2.2.1.toNat then walk L f e.2.2.1.toNat (way path e.1) else []
def step (L:List Ino) (f:Nat) (path:ByteArray) (e:En):List (Nat × ByteArray):=if dirAt L e.2.2.1.toNat then walk L f e.2.2.1.toNat (way path e.1) else []
theorem walk_succ (L:List Ino) (f no:Nat) (path:ByteArray):walk L (f + 1) no path = (no,path) :: (entsAt L no).flatMap (step L f path):=rfl
/-- The folders below a folder are no deeper than f. -/
def deep (L:List Ino):Nat->Nat->Prop
  | 0,_=>False
  | f + 1,no=>no < L.length/\∀ e∈entsAt L no,(0<=e.2.2.1/\e.2.2.1 < L.length/\e.1.size<=32)/\(dirAt L e.2.2.1.toNat = true->deep L f e.2.2.1.toNat)
/-- What is gone through ahead of the j-th entry. -/
def upto (L:List Ino) (f no:Nat) (path:ByteArray) (j:Nat):List (Nat × ByteArray):=(no,path) :: ((entsAt L no).take j).flatMap (step L f path)
theorem upto_zero (L:List Ino) (f no:Nat) (path:ByteArray):upto L f no path 0 = [(no,path)]:=by simp [upto]
theorem upto_succ {L:List Ino} {f no:Nat} {path:ByteArray} {j:Nat} {e:En} (h:(entsAt L no)[j]? = some e):upto L f no path (j + 1) = upto L f no path j ++ step L f path e:=by
  unfold upto;rw [List.take_add_one,h,List.cons_append];simp
theorem upto_all {L:List Ino} {f no:Nat} {path:ByteArray} {j:Nat} (h:(entsAt L no).length = j):upto L f no path j = walk L (f + 1) no path:=by
  unfold upto;rw [walk_succ,← h,List.take_length]
theorem upto_pre (L:List Ino) (f no:Nat) (path:ByteArray) (j:Nat):upto L f no path j <+: walk L (f + 1) no path:=by
  unfold upto;rw [walk_succ];refine ⟨((entsAt L no).drop j).flatMap (step L f path),?_⟩;rw [List.cons_append,← List.flatMap_append,List.take_append_drop]
theorem step_dir {L:List Ino} {f:Nat} {path:ByteArray} {e:En} (h:dirAt L e.2.2.1.toNat = true):step L f path e = walk L f e.2.2.1.toNat (way path e.1):=if_pos h
theorem step_file {L:List Ino} {f:Nat} {path:ByteArray} {e:En} (h:dirAt L e.2.2.1.toNat = false):step L f path e = []:=by unfold step;rw [if_neg (by rw [h];simp)]
theorem way_size (p s:ByteArray):(way p s).size = p.size + 1 + s.size:=by
  unfold way;rw [ByteArray.size_append,ByteArray.size_append];rfl
end Sp
namespace Sp
def allEnts (L:List Ino):List En:=L.flatMap (fun x=>x.ents)
def toNo (c:Nat) (e:En):Bool:=e.2.2.1 == (c:Int)
theorem one_in (q:En->Bool):∀ (L:List Ino) (p:Nat),(entsAt L p).countP q<=(allEnts L).countP q
 | [],p=>by simp [entsAt]
 | x :: L,0=>by
  have e:entsAt (x :: L) 0 = x.ents:=rfl;rw [e,allEnts,List.flatMap_cons,List.countP_append];omega
 | x :: L,p + 1=>by
  have e:entsAt (x :: L) (p + 1) = entsAt L p:=rfl;have ih:=one_in q L p;unfold allEnts at ih;rw [e,allEnts,List.flatMap_cons,List.countP_append];omega
theorem two_in (q:En->Bool):∀ (L:List Ino) (p p':Nat),p≠p'->(entsAt L p).countP q + (entsAt L p').countP q<=(allEnts L).countP q
 | [],p,p',_=>by simp [entsAt]
 | x :: L,0,0,h=>absurd rfl h
 | x :: L,0,p' + 1,_=>by
  have e:entsAt (x :: L) 0 = x.ents:=rfl;have e':entsAt (x :: L) (p' + 1) = entsAt L p':=rfl;have ih:=one_in q L p';unfold allEnts at ih;rw [e,e',allEnts,List.flatMap_cons,List.countP_append];omega
 | x :: L,p + 1,0,_=>by
  have e:entsAt (x :: L) 0 = x.ents:=rfl;have e':entsAt (x :: L) (p + 1) = entsAt L p:=rfl;have ih:=one_in q L p;unfold allEnts at ih;rw [e,e',allEnts,List.flatMap_cons,List.countP_append];omega
 | x :: L,p + 1,p' + 1,h=>by
  have e:entsAt (x :: L) (p + 1) = entsAt L p:=rfl;have e':entsAt (x :: L) (p' + 1) = entsAt L p':=rfl;have ih:=two_in q L p p' (by omega);unfold allEnts at ih;rw [e,e',allEnts,List.flatMap_cons,List.countP_append];omega
structure Tree (L:List Ino):Prop where
 inr:∀ p,∀ e∈entsAt L p,0<=e.2.2.1/\e.2.2.1 < L.length/\e.1.size<=32/\e.2.2.1≠0
 one:∀ c,dirAt L c = true->(allEnts L).countP (toNo c)<=1
 root:dirAt L 0 = true
def Child (L:List Ino) (p c:Nat):Prop:=(∃ e∈entsAt L p,toNo c e = true)/\dirAt L c = true
def Anc (L:List Ino):Nat->Nat->Nat->Prop
 | 0,a,c=>a = c
 | d + 1,a,c=>∃ p,Anc L d a p/\Child L p c
theorem dirAt_lt {L:List Ino} {c:Nat} (h:dirAt L c = true):c < L.length:=by
 unfold dirAt at h;split at h
 ·rename_i x hx
  exact (qM hx)
 ·cases h
theorem Child.le {L:List Ino} {p c:Nat} (h:Child L p c):1<=(entsAt L p).countP (toNo c):=by
 obtain ⟨⟨e,he,hc⟩,_⟩:=h;exact List.countP_pos_iff.2 ⟨e,he,hc⟩
theorem child_one {L:List Ino} (ht:Tree L) {p p' c:Nat} (h:Child L p c) (h':Child L p' c):p = p':=by
 by_cases e:p = p'
 ·exact e
 ·have h1:=h.le;have h2:=h'.le;have h3:=two_in (toNo c) L p p' e;have h4:=ht.one c h.2;omega
theorem child_root {L:List Ino} (ht:Tree L) {p:Nat} (h:Child L p 0):False:=by
 obtain ⟨⟨e,he,hc⟩,_⟩:=h;have:=(ht.inr p e he).2.2.2;simp [toNo] at hc;exact this hc
theorem anc_trans {L:List Ino} {a b:Nat} {d:Nat} (h:Anc L d a b):∀ (d' c:Nat),Anc L d' b c->Anc L (d + d') a c
 | 0,c,h'=>by
  have e:b = c:=h';subst e;exact h
 | d' + 1,c,h'=>by
  obtain ⟨p,h1,h2⟩:=h';exact ⟨p,anc_trans h d' p h1,h2⟩
theorem anc_split {L:List Ino} {a:Nat} {d:Nat}:∀ (d' c:Nat),Anc L (d + d') a c->∃ b,Anc L d a b/\Anc L d' b c
 | 0,c,h=>⟨c,h,rfl⟩
 | d' + 1,c,h=>by
  obtain ⟨p,h1,h2⟩:=h;obtain ⟨b,h3,h4⟩:=anc_split d' p h1;exact ⟨b,h3,p,h4,h2⟩
theorem anc_back {L:List Ino} (ht:Tree L) {a a':Nat}:∀ (d c:Nat),Anc L d a c->Anc L d a' c->a = a'
 | 0,c,h,h'=>by
  have e:a = c:=h;have e':a' = c:=h';omega
 | d + 1,c,h,h'=>by
  obtain ⟨p,h1,h2⟩:=h;obtain ⟨p',h1',h2'⟩:=h';obtain rfl:=child_one ht h2 h2';exact anc_back ht d p h1 h1'
theorem anc_child {L:List Ino} {a b c d:Nat} (h:Child L a b) (h':Anc L d b c):Anc L (d + 1) a c:=by
 have:=anc_trans (show Anc L 1 a b from ⟨a,rfl,h⟩) d c h'
 rwa [Nat.add_comm] at this
theorem anc_level {L:List Ino} (ht:Tree L) {j k c:Nat} (h:Anc L j 0 c) (h':Anc L k 0 c):j = k:=by
 have key:∀ (j k c:Nat),j < k->Anc L j 0 c->Anc L k 0 c->False:=fun j k c hlt h h'=>by
  rw [show k = (k - j) + j by omega] at h';obtain ⟨b,h1,h2⟩:=anc_split j c h';obtain rfl:=anc_back ht j c h h2;rw [show k - j = (k - j - 1) + 1 by omega] at h1;obtain ⟨p,_,h3⟩:=h1;exact child_root ht h3
 rcases Nat.lt_trichotomy j k with hl | hl | hl
 ·exact (key j k c hl h h').elim
 ·exact hl
 ·exact (key k j c hl h' h).elim
theorem anc_cycle {L:List Ino} (ht:Tree L) {m k x:Nat} (h:Anc L m 0 x) (h':Anc L k x x):k = 0:=by
 have:=anc_level ht h (anc_trans h k x h');omega
theorem anc_list {L:List Ino} (ht:Tree L):∀ (d c:Nat),Anc L d 0 c->∃ l:List Nat,l.length = d + 1/\l.Nodup/\∀ y∈l,y < L.length/\∃ j,j<=d/\Anc L j 0 y
 | 0, c, h => by
  have e:0 = c:=h;subst e;exact ⟨[0],rfl,by simp,fun y hy=>by
   rw [List.mem_singleton.1 hy];exact ⟨dirAt_lt ht.root,0,Nat.le_refl _,rfl⟩⟩
 | d + 1, c, h => by
  obtain ⟨p,h1,h2⟩:=h;obtain ⟨l,hl,hn,hm⟩:=anc_list ht d p h1;have hc:Anc L (d + 1) 0 c:=⟨p,h1,h2⟩;refine ⟨c :: l,by simp [hl],List.nodup_cons.2 ⟨fun hmem=>?_,hn⟩,fun y hy=>?_⟩
  ·obtain ⟨_,j,hj,ha⟩:=hm c hmem;have:=anc_level ht ha hc;omega
  ·rcases List.mem_cons.1 hy with rfl | hy
   ·exact ⟨dirAt_lt h2.2,d + 1,Nat.le_refl _,hc⟩
   ·obtain ⟨h3,j,hj,ha⟩:=hm y hy;exact ⟨h3,j,by omega,ha⟩
theorem anc_lt {L:List Ino} (ht:Tree L) {d c:Nat} (h:Anc L d 0 c):d < L.length:=by
 obtain ⟨l,hl,hn,hm⟩:=anc_list ht d c h;have:=List.Nodup.length_le_of_subset hn (l₂:=List.range L.length) (fun y hy=>List.mem_range.2 (hm y hy).1);rw [List.length_range] at this;omega
theorem not_deep {L:List Ino} (ht:Tree L):∀ (f x:Nat),x < L.length->¬ deep L f x->∃ c,Anc L f x c
 | 0,x,_,_=>⟨x,rfl⟩
 | f + 1, x, hx, h => by
  by_cases hb:∃ e∈entsAt L x,dirAt L e.2.2.1.toNat = true/\¬ deep L f e.2.2.1.toNat
  ·obtain ⟨e,he,hd,hn⟩:=hb;obtain ⟨c,hc⟩:=not_deep ht f _ (dirAt_lt hd) hn;refine ⟨c,anc_child ⟨⟨e,he,?_⟩,hd⟩ hc⟩;have:=(ht.inr x e he).1;simp [toNo];omega
  ·refine absurd ?_ h;refine ⟨hx,fun e he=>⟨?_,fun hd=>?_⟩⟩
   ·have:=ht.inr x e he;exact ⟨this.1,this.2.1,this.2.2.1⟩
   ·by_cases hn:deep L f e.2.2.1.toNat
    ·exact hn
    ·exact absurd ⟨e,he,hd,hn⟩ hb
theorem deep_all {L:List Ino} (ht:Tree L) (hL:L.length<=24) {m x:Nat} (h:Anc L m 0 x) (hx:x < L.length):deep L 24 x:=by
 by_cases hd:deep L 24 x
 ·exact hd
 ·obtain ⟨c,hc⟩:=not_deep ht 24 x hx hd;have:=anc_lt ht (anc_trans h 24 c hc);omega
theorem deep_bare {L:List Ino} {x f:Nat} (hx:x < L.length) (h:entsAt L x = []):deep L (f + 1) x:=⟨hx,fun e he=>by rw [h] at he;cases he⟩
theorem mem_step {L:List Ino} {f:Nat} {path:ByteArray} {e:En} {z:Nat × ByteArray} (h:z∈step L f path e):dirAt L e.2.2.1.toNat = true/\z∈walk L f e.2.2.1.toNat (way path e.1):=by
 unfold step at h;split at h
 ·rename_i hd
  exact ⟨hd,h⟩
 ·cases h
theorem child_of {L:List Ino} (ht:Tree L) {no:Nat} {e:En} (he:e∈entsAt L no) (hd:dirAt L e.2.2.1.toNat = true):Child L no e.2.2.1.toNat:=by
 refine ⟨⟨e,he,?_⟩,hd⟩;have:=(ht.inr no e he).1;simp [toNo];omega
theorem walk_mem {L:List Ino} (ht:Tree L):∀ (f no:Nat) (path:ByteArray) (z:Nat × ByteArray),z∈walk L f no path->∃ d,Anc L d no z.1
 | 0,_,_,z,h=>by cases h
 | f + 1, no, path, z, h => by
  rw [walk_succ] at h;rcases List.mem_cons.1 h with rfl | h
  ·exact ⟨0,rfl⟩
  ·obtain ⟨e,he,hz⟩:=List.mem_flatMap.1 h;obtain ⟨hd,hz⟩:=mem_step hz;obtain ⟨d,ha⟩:=walk_mem ht f _ _ z hz;exact ⟨d + 1,anc_child (child_of ht he hd) ha⟩
theorem walk_has {L:List Ino} (ht:Tree L):∀ (f no:Nat) (path:ByteArray) (d c:Nat),Anc L d no c->d < f->∃ z∈walk L f no path,z.1 = c
 | 0,_,_,d,_,_,h=>by omega
 | f + 1,no,path,0,c,h,_=>by
  have e:no = c:=h;subst e;exact ⟨(no,path),by rw [walk_succ];simp,rfl⟩
 | f + 1,no,path,d + 1,c,h,hlt=>by
  rw [show d + 1 = 1 + d by omega] at h;obtain ⟨b,h1,h2⟩:=anc_split d c h;obtain ⟨p,hp,hc⟩:=h1;have e:no = p:=hp;subst e;obtain ⟨⟨e,he,hb⟩,hd⟩:=hc;have hbn:e.2.2.1.toNat = b:=by simp [toNo] at hb;omega
  obtain ⟨z,hz,hzc⟩:=walk_has ht f b (way path e.1) d c h2 (by omega);refine ⟨z,?_,hzc⟩;rw [walk_succ];refine List.mem_cons_of_mem _ (List.mem_flatMap.2 ⟨e,he,?_⟩);unfold step;rw [hbn,if_pos hd];exact hz
theorem ents_pair {L:List Ino} (ht:Tree L) (p:Nat):(entsAt L p).Pairwise (fun e e'=>dirAt L e.2.2.1.toNat = true->e.2.2.1.toNat≠e'.2.2.1.toNat):=by
 have key:∀ l:List En,(∀ e∈l,0<=e.2.2.1)->(∀ c,dirAt L c = true->l.countP (toNo c)<=1)->l.Pairwise (fun e e'=>dirAt L e.2.2.1.toNat = true->e.2.2.1.toNat≠e'.2.2.1.toNat):=by
  intro l
  induction l with
  | nil=>intro _ _;exact List.Pairwise.nil
  | cons e r ih =>
   intro h0 h;refine List.pairwise_cons.2 ⟨fun e' he' hd hc=>?_,ih (fun x hx=>h0 x (List.mem_cons_of_mem _ hx)) fun c hc=>?_⟩
   ·have h1:=h _ hd;have g0:=h0 e (by simp);have g1:=h0 e' (List.mem_cons_of_mem _ he');rw [List.countP_cons,if_pos (by simp [toNo];omega)] at h1;have:0 < r.countP (toNo e.2.2.1.toNat):=List.countP_pos_iff.2 ⟨e',he',by simp [toNo];omega⟩;omega
   ·have:=h c hc;rw [List.countP_cons] at this;omega
 exact key _ (fun e he=>(ht.inr p e he).1) fun c hc=>Nat.le_trans (one_in (toNo c) L p) (ht.one c hc)
theorem walk_apart {L:List Ino} (ht:Tree L):∀ (f no:Nat) (path:ByteArray) (m:Nat),Anc L m 0 no->(walk L f no path).Pairwise (fun x y=>x.1≠y.1)
 | 0,_,_,_,_=>List.Pairwise.nil
 | f + 1, no, path, m, hm => by
  rw [walk_succ];refine List.pairwise_cons.2 ⟨fun z hz hc=>?_,List.pairwise_flatMap.2 ⟨fun e he=>?_,?_⟩⟩
  ·obtain ⟨e,he,hz⟩:=List.mem_flatMap.1 hz;obtain ⟨hd,hz⟩:=mem_step hz;obtain ⟨d,ha⟩:=walk_mem ht f _ _ z hz;have:=anc_cycle ht hm (show Anc L (d + 1) no no from by rw [← hc] at ha;exact anc_child (child_of ht he hd) ha);omega
  ·unfold step;split
   ·rename_i hd
    exact walk_apart ht f _ _ (m + 1) ⟨no,hm,child_of ht he hd⟩
   ·exact List.Pairwise.nil
  ·have hp:=ents_pair ht no;refine List.Pairwise.imp_of_mem (fun {e e'} he he' hne z hz z' hz' hc=>?_) hp;obtain ⟨hd,hz⟩:=mem_step hz;obtain ⟨hd',hz'⟩:=mem_step hz';obtain ⟨d,ha⟩:=walk_mem ht f _ _ z hz;obtain ⟨d',ha'⟩:=walk_mem ht f _ _ z' hz';rw [← hc] at ha';have c1:=child_of ht he hd;have c2:=child_of ht he' hd';have h12:=hne hd;have key:∀ (a b d d':Nat),Child L no a->Child L no b->a≠b->Anc L d a z.1->Anc L d' b z.1->d<=d'->False:=fun a b d d' ca cb hab h1 h2 hle=>by
    rw [show d' = (d' - d) + d by omega] at h2;obtain ⟨x,h3,h4⟩:=anc_split d _ h2;obtain rfl:=anc_back ht d _ h1 h4
    cases hk:d' - d with
    | zero =>
     rw [hk] at h3;have e:b = a:=h3;exact hab e.symm
    | succ k =>
     rw [hk] at h3;obtain ⟨p,h5,h6⟩:=h3;obtain rfl:=child_one ht ca h6;have:=anc_cycle ht hm (anc_child cb h5);omega
   rcases Nat.le_total d d' with hle | hle
   ·exact key _ _ d d' c1 c2 h12 ha ha' hle
   ·exact key _ _ d' d c2 c1 (Ne.symm h12) ha' ha hle
theorem anc_dir {L:List Ino} (ht:Tree L) {d c:Nat} (h:Anc L d 0 c):dirAt L c = true:=by
 cases d with
 | zero =>
  have e:0 = c:=h;subst e;exact ht.root
 | succ d =>
  obtain ⟨p,_,hc⟩:=h;exact hc.2
def dirs (L:List Ino):List Nat:=(List.range L.length).filter (dirAt L)
theorem mem_dirs {L:List Ino} {c:Nat}:c∈dirs L ↔ dirAt L c = true:=by
 unfold dirs;rw [List.mem_filter,List.mem_range];exact ⟨fun h=>h.2,fun h=>⟨dirAt_lt h,h⟩⟩
theorem walk_nodup {L:List Ino} (ht:Tree L) {f no m:Nat} {path:ByteArray} (h:Anc L m 0 no):((walk L f no path).map (·.1)).Nodup:=by
 refine List.pairwise_map.2 (walk_apart ht f no path m h)
theorem walk_len {L:List Ino} (ht:Tree L) (f:Nat) (path:ByteArray):(walk L f 0 path).length<=(dirs L).length:=by
 have h:=List.Nodup.length_le_of_subset (walk_nodup ht (f:=f) (path:=path) (show Anc L 0 0 0 from rfl)) (l₂:=dirs L) (fun c hc=>by
  obtain ⟨z,hz,rfl⟩:=List.mem_map.1 hc;obtain ⟨d,ha⟩:=walk_mem ht f 0 path z hz;exact mem_dirs.2 (anc_dir ht ha))
 rwa [List.length_map] at h
theorem walk_all {L:List Ino} (ht:Tree L) (hL:L.length<=24) (path:ByteArray):(walk L 24 0 path).length = (dirs L).length ↔ ∀ c,dirAt L c = true->∃ d,Anc L d 0 c:=by
 have hn:=walk_nodup ht (f:=24) (path:=path) (show Anc L 0 0 0 from rfl);have hsub:∀ c∈(walk L 24 0 path).map (·.1),c∈dirs L:=fun c hc=>by
  obtain ⟨z,hz,rfl⟩:=List.mem_map.1 hc;obtain ⟨d,ha⟩:=walk_mem ht 24 0 path z hz;exact mem_dirs.2 (anc_dir ht ha)
 have hdn:(dirs L).Nodup:=List.Pairwise.filter _ List.nodup_range;constructor
 ·intro he c hc
  by_cases hm:c∈(walk L 24 0 path).map (·.1)
  ·obtain ⟨z,hz,rfl⟩:=List.mem_map.1 hm;exact walk_mem ht 24 0 path z hz
  ·have:=List.Nodup.length_le_of_subset (List.nodup_cons.2 ⟨hm,hn⟩) (l₂:=dirs L) (fun y hy=>by
    rcases List.mem_cons.1 hy with rfl | hy
    ·exact mem_dirs.2 hc
    ·exact hsub y hy)
   simp only [List.length_cons,List.length_map] at this;omega
 ·intro h;have h1:=walk_len ht 24 path;have h2:=List.Nodup.length_le_of_subset hdn (l₂:=(walk L 24 0 path).map (·.1)) (fun c hc=>by
   obtain ⟨d,ha⟩:=h c (mem_dirs.1 hc);have:=anc_lt ht ha;obtain ⟨z,hz,hzc⟩:=walk_has ht 24 0 path d c ha (by omega);exact List.mem_map.2 ⟨z,hz,hzc⟩)
  rw [List.length_map] at h2;omega
end Sp
end
end Go.Proofs.YtneojimodomohaaGreat
