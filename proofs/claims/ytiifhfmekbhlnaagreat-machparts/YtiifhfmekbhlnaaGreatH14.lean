/- Part 14. -/
import Derived.Laws.AppendOwn
import Derived.OrdersIn
import Derived.TacticsIn
import Derived.Lib.BufferWrite
import Derived.Maps.AppendAt
import Derived.Test.YtiifhfmekbhlnaaGreatH13
set_option maxHeartbeats 8000000
set_option maxRecDepth 100000
namespace Go.Proofs.YtiifhfmekbhlnaaGreat.Bs
open ChangeShapes WideShapes ChangeAt RowKit Deep
theorem xT:(Tryz.prog.info? 114).map (λi=>(i.zero,i.size,i.bytes))=some (some (.agg #[.int .i64 0,.string ⟨#[]⟩]),2,24):=qk
theorem wrap_small (n:Nat) (h:n<9223372036854775808):IntKind.i64.wrap (n:Int)=(n:Int):=by
 have e:(n:Int) % 2 ^ 64=n:=Int.emod_eq_of_lt (by omega) (by omega);simp only[IntKind.wrap,IntKind.bits,IntKind.signed,e];rw[ME];simp;omega
abbrev BR (a:Int) (s:ByteArray):Obj:=.cells #[.int .i64 a,.string s] 114
theorem yF (a:Int)(s:ByteArray)(w:World)(h0:-9223372036854775808<=a) (h1:a+s.size<=9223372036854775807) :
  Calls Tryz.prog 174 #[.agg #[.int .i64 a,.string s]] w λe w'=>e=.returned (.int .i64 (a+s.size))/\w'=w.alloc (BR a s):=by
 go_enter Tryz.func174,Tryz.ntmps174;go_wp2;go_ret;exact⟨rfl,rfl⟩
theorem zG (a:Int) (s:ByteArray) (w:World) (h0:-9223372036854775808<=a) (h1:a+s.size<=9223372036854775807) :
  Calls Tryz.prog 174 #[.agg #[.int .i64 a,.string s]] w λe w'=>e=.returned (.int .i64 (a+s.size))/\w.grownBy w' none :=
 (yF a s w h0 h1).mono λ_ _ ⟨he,hw⟩=>⟨he,by rw[hw];exact MU _ _ _⟩
def Bl.err (l:List Bl.R):Int:=if Bl.right (-1) l then 0 else 80
theorem Bl.take_succ (l:List Bl.R){k:Nat} (hk:k<l.length) {x:Bl.R} (hx:l.getD k (0,.empty)=x):l.take (k+1)=l.take k++[x]:=by
 rw[Np hk,<-hx];simp[List.getD,hk]
theorem Bl.gH {l:List Bl.R}{k:Nat}(hk:k<l.length){x:Bl.R}(hx:l.getD k (0,.empty)=x):Bl.right (-1) (l.take (k+1)) ↔ Bl.right (-1) (l.take k)/\(x.2.size≠0/\Bl.dE (-1) (l.take k)<x.1/\x.1+x.2.size<=1048576):=by
 rw[Bl.take_succ l hk hx,Bl.fG];exact⟨λ⟨a,b,_⟩=>⟨a,b⟩,λ⟨a,b⟩=>⟨a,b,trivial⟩⟩
theorem Bl.po {l:List Bl.R}{a:Int}(h:Bl.right a l)(k):Bl.right a (l.take k):=by
 rw[<-Nj k l,Bl.fG]at h;exact h.1
theorem Bl.mz {l:List Bl.R}{k:Nat}(hk:k<l.length){x:Bl.R}(hx:l.getD k (0,.empty)=x)(h:¬ (x.2.size≠0/\Bl.dE (-1) (l.take k)<x.1/\x.1+x.2.size<=1048576)):Bl.err l=80:=by
  unfold Bl.err;rw[ME];intro a;exact h ((Bl.gH hk hx).1 (Bl.po a (k+1))).2
theorem Bl.ju {l:List Bl.R}{k:Nat}(hk:k<l.length){x:Bl.R}(hx:l.getD k (0,.empty)=x):Bl.dE (-1) (l.take (k+1))=x.1+x.2.size:=by
 rw[Bl.take_succ l hk hx,Bl.eI];rfl
theorem Bl.px {l:List Bl.R}(h:Bl.right (-1) l):-1<=Bl.dE (-1) l/\Bl.dE (-1) l<=1048576:=by
 refine⟨Bl.lP h,?_⟩;rcases Bl.fP l with rfl | ⟨m,s,rfl⟩
 ·decide
 ·rw[Bl.eI]
  exact (Bl.jk h s qs).2.2
theorem du (v )(l )(w )(hv : cT w.1.size w v l)(eE : dQ l) :
  Calls Tryz.prog 145 #[v] w λe w'=>e=.returned (.int .i64 (Bl.err l))/\Bw w w':=by
 obtain⟨S,T,rfl,L,y⟩:=hv.open;clear hv;unfold maxLen at L;obtain⟨n,z⟩:=qE l.length;rw[z]at L y |-;have I:=hH z;have O:=hH y;have P:=hH eE;clear z y eE;go_enter Tryz.func145,Tryz.ntmps145;go_wp2;go_loopw [3,8] (λt i W=>∃ k:Nat,k<=n/\i=.int .i64 k/\t=.int .i64 (Bl.dE (-1) (l.take k))/\Bl.right (-1) (l.take k)/\Bw w W) (λ_ i _=>n-(intOf i).toNat)
 case atStart=>exact⟨0,MV _,rfl,rfl,trivial,MJ _ _⟩
 case round =>
  obtain⟨k,X,rfl,rfl,A,a⟩:=hrel;have g:=a.size;obtain⟨B,C⟩:=Bl.px A;obtain⟨M,o⟩:=qE (Bl.dE (-1) (l.take k));rw[o]at B C |-;have s:Hid (Bl.dE (-1) (l.take k)=M):=o;have J:Hid (Bl.right (-1) (l.take k)):=A;clear o A
  by_cases hlt:k<n
  ·obtain⟨b,d,rfl,N,D, E⟩ := O.out k hlt
   have c:k<l.length:=by rw[I.out];exact hlt
   have m:=P.out.at c;rw[<-a.cell (p:=⟨b,d+k*2,none⟩) N]at D;rw[<-a.cell (p:=⟨b,d+k*2+1,none⟩) N]at E;obtain⟨x,q⟩:=qE (l.getD k (0,.empty));rw[q]at D E m;have f:Hid (l.getD k (0,.empty)=x):=q;clear q;obtain⟨F,r⟩:=x;simp only at D E m;obtain⟨⟨U,V⟩,G⟩:=m;unfold maxLen at G;have K:(k:Int)<(n:Int):=by omega
   by_cases h1:r.size=0
   ·have H : Hid (Bl.err l=80) := Bl.mz c f.out (λh => h.1 h1)
    have u:((r.size:Int)==0)=true:=by simp[h1]
    clear h1;go_wp2;go_ret;rw[H.out];exact⟨rfl,a.alloc g _⟩
   ·have u : ((r.size : Int)==0)=false := MQ.2 (by omega)
    by_cases h2:F<=M
    ·have H : Hid (Bl.err l=80) := Bl.mz c f.out (λh => by have := h.2.1;rw[s.out]at this;simp only at this;omega)
     clear h1;go_wp2;go_ret;rw[H.out];exact⟨rfl,a.alloc g _⟩
    ·by_cases h3 : (1048576 : Int)-r.size<F
     ·have H : Hid (Bl.err l=80) := Bl.mz c f.out (λh => by have := h.2.2;simp only at this;omega)
      clear h1;go_wp2;go_ret;rw[H.out];exact⟨rfl,a.alloc g _⟩
     ·have Q : Hid (¬ r.size=0) := h1
      clear h1;go_wp2_with fail;refine (yF F r _ (by omega) (by omega)).mono ?_;rintro e Y ⟨rfl,rfl⟩;go_wp2
      go_roundw
      case rel=>exact⟨k+1,qo,by go_num,by rw[Bl.ju c f],(Bl.gH c f).2 ⟨J,Q,by rw[s.out];simp only;omega,by simp only;omega⟩,(a.alloc g _).alloc qt _⟩
      case measure=>simp[intOf];omega
  ·obtain rfl : k=n := by omega
   have H:Hid (Bl.err l=0):=by
    have:=J.out;rw[<-I.out,Ns]at this;show Bl.err l=0;unfold Bl.err;rw[MC this]
   go_wp2;go_ret;rw[H.out];exact⟨rfl,a⟩
end Go.Proofs.YtiifhfmekbhlnaaGreat.Bs
namespace Go.Proofs.YtiifhfmekbhlnaaGreat.Bs
open RowKit Go.Shelf
attribute [local go_sem] O4
structure Kept (n₀ B:Nat) (W W':World):Prop where
 size:W.1.size<=W'.1.size
 block:∀ k,(k<n₀\/(B<=k/\k<B+3))->k<W.1.size->W'.1[k]?=W.1[k]?
theorem Kept.refl (n₀ B)(W):Kept n₀ B W W:=⟨qn,λ_ _ _=>rfl⟩
theorem Kept.trans {n₀ B:Nat}{X Y Z:World}(h:Kept n₀ B X Y)(k:Kept n₀ B Y Z):Kept n₀ B X Z :=
 ⟨MS h.size k.size,λi a b=>(k.block i a (M6 b h.size)).trans (h.block i a b)⟩
theorem Kept.grown {n₀ B:Nat}{W W':World}{row:Option Nat}(hg:W.grownBy W' row)(hr:∀ k,row=some k->n₀<=k/\(k<B\/B+3<=k)):Kept n₀ B W W' :=
 ⟨hg.size,λk b a=>hg.block k a (λe=>by have:=hr k e.symm;omega)⟩
theorem Kept.still {n₀ B:Nat}{W W':World}(hg:W.grownBy W' none):Kept n₀ B W W':=Kept.grown hg (λk e=>by cases e)
theorem pL {n₀ B:Nat}{X Y Z:World}(h:Kept n₀ B X Y)(k:Kept n₀ B Y Z):Kept n₀ B X Z:=h.trans k
theorem qv {n₀ B:Nat}{w:World}(hn:n₀<=w.1.size)(hB:B+3<=w.1.size)(W)(l)(o o')(hl:w.1.size<=l)(_:W.1[l]?=some o)(_:o.isCells=false)(_:o.isWalk=false):Kept n₀ B W (W.putObj l o') :=
 Kept.grown (grownBy_putObj' W l o') (λk e=>by cases e;omega)
theorem Kept.cell {n₀ B:Nat}{W W':World}(h:Kept n₀ B W W'){k o:Nat}(hk:k<n₀\/(B<=k/\k<B+3))(hl:k<W.1.size):W'.cell? ⟨k,o,none⟩=W.cell? ⟨k,o,none⟩ :=
 World.cell?_of_block (a:=⟨k,o,none⟩) (h.block k hk hl)
abbrev In (a b:Int):={ x:Bl.R // a<=x.1/\Bl.ee x<=b/\0<x.2.size }
def encs {a b:Int} (x:In a b):Array Value:=#[.agg #[.int .i64 x.1.1,.string x.1.2]]
theorem eJ (v)(a b)(w)(hv:∃ ao n cap,v=.slice ao n cap) :
  Calls Tryz.prog 180 #[v,.int .i64 a,.int .i64 b] w λe w'=>e=.returned (.func (.func 202) #[] #[.pointer (some ⟨w.1.size,0,none⟩),.pointer (some ⟨w.1.size+1,0,none⟩),.pointer (some ⟨w.1.size+1+1,0,none⟩)]) /\
   w'=((w.alloc (.cells #[v] 84)).alloc (.cells #[.int .i64 a] 3)).alloc (.cells #[.int .i64 b] 3):=by
 obtain⟨ao,n,cap,rfl⟩:=hv;go_enter Tryz.func180,Tryz.ntmps180;go_wp2;go_ret;exact⟨rfl,rfl⟩
theorem rj {w' w'':World}{R C D:Nat}{x0 x1 x2 x3:Value}(h:w'.cell? ⟨R,0,none⟩=some x0/\w'.cell? ⟨R,1,none⟩=some x1/\w'.cell? ⟨C,0,none⟩=some x2/\w'.cell? ⟨D,0,none⟩=some x3)(hg:w'.grownBy w'' none) :
  w''.cell? ⟨R,0,none⟩=some x0/\w''.cell? ⟨R,1,none⟩=some x1/\w''.cell? ⟨C,0,none⟩=some x2/\w''.cell? ⟨D,0,none⟩=some x3 :=
 ⟨hg.cell h.1 qs,hg.cell h.2.1 qs,hg.cell h.2.2.1 qs,hg.cell h.2.2.2 qs⟩
theorem tq (n:Nat)(hn:1<=n)(lp B n₀:Nat)(ao:Option Addr)(cap:Nat)(l:List Bl.R)(a b:Int)(hr:Bl.right (-1) l)(J Jx:List (In a b)->World->Prop)(W:World)(hn0:n₀<=W.1.size)(hB:B+3<=W.1.size)(hm:l.length<=maxLen)(hx:∀ j,j<l.length->∃ b off,ao=some ⟨b,off,none⟩/\b<n₀/\W.cell? ⟨b,off+j*2,none⟩=some (.int .i64 (l.getD j (0,.empty)).1)/\W.cell? ⟨b,off+j*2+1,none⟩=some (.string (l.getD j (0,.empty)).2))(c0:W.cell? ⟨B,0,none⟩=some (.slice ao l.length cap))(c1:W.cell? ⟨B+1,0,none⟩=some (.int .i64 a))(c2:W.cell? ⟨B+1+1,0,none⟩=some (.int .i64 b))(hJ:AbidesFrom W.1.size J)(hY:∀ pre x W1,J pre W1->pre.length<l.length->YieldAt Fence.wide (n-1) Tryz.prog lp (encs x) W1 λe W' =>
   (e=.returned (.bool true)/\J (pre++[x]) W'/\Kept n₀ B W1 W')\/(e=.returned (.bool false)/\Jx (pre++[x]) W'))(h0:J [] W) :
  CallsIn Fence.wide n Tryz.prog 202 #[.func (.yield lp) #[] #[],.pointer (some ⟨B,0,none⟩),.pointer (some ⟨B+1,0,none⟩),.pointer (some ⟨B+1+1,0,none⟩)] W λe W'=>(∃ v,e=.returned v) /\
   ((∃ ys,ys.map (·.1)=Bl.within a b l/\J ys W')\/(∃ pre,True/\Jx pre W')):=by
 unfold maxLen at hm;obtain⟨m,w⟩:=qE l.length;rw[w]at hm hx c0 hY;refine callsIn_of_wp Tryz.func202 rfl trivial ?_ rfl;simp only[Tryz.ntmps202,List.size_toArray,List.length_cons,List.length_nil,Nat.reduceAdd,Nat.reduceSub,Array.replicate_succ,Array.replicate_zero,List.push_toArray,List.append_toArray,List.nil_append,List.cons_append]
 gi_wp2
 gi_loopw [11] (λi wr=>∃ (k:Nat) (pre:List (In a b)),k<=m/\i=.int .i64 k/\pre.map (·.1)=Bl.within a b (l.take k)/\J pre wr/\Kept n₀ B W wr)
  (λi _=>m-(intOf i).toNat)
 case atStart=>exact⟨0,[],MV _,rfl,rfl,h0,Kept.refl _ _ _⟩
 case round =>
  obtain⟨k,pre,hk,rfl,t,z,g⟩:=hrel;have ak:=g.size;have e1:=(g.cell (k:=B+1) (o:=0) (.inr ⟨by omega,by omega⟩) (by omega)).trans c1;have e2:=(g.cell (k:=B+1+1) (o:=0) (.inr ⟨by omega,by omega⟩) (by omega)).trans c2
  by_cases hlt:k<m
  ·obtain⟨bb,off,rfl,aa,d0,d1⟩:=hx k hlt;rw[<-g.cell (k:=bb) (.inl aa) (by omega)]at d0 d1;have HX:Hid (l.getD k (0,.empty)=l.getD k (0,.empty)):=rfl;obtain⟨x,u⟩:=qE (l.getD k (0,.empty));rw[u]at d0 d1;obtain⟨d,c⟩:=x;simp only at d0 d1;have G:(d,c)∈l:=by rw[<-u];simp[List.getD,w,hlt]
   obtain⟨q0,q1,S⟩:=Bl.jk hr _ G;unfold Bl.ee at S;simp only at q0 q1 S;replace S:d+(c.size:Int)<=1048576:=S;have af:(k:Int)<(m:Int):=by omega
   clear hx;obtain⟨A,O⟩:=qE (if d<a then a else d);obtain⟨mn,P⟩:=qE (if b<d+(c.size:Int) then b else d+(c.size:Int));have V:Hid ((wr.alloc (BR d c)).cell? ⟨wr.1.size,0,none⟩=some (.int .i64 d)/\(wr.alloc (BR d c)).cell? ⟨wr.1.size,1,none⟩=some (.string c)/\(wr.alloc (BR d c)).cell? ⟨B+1,0,none⟩=some (.int .i64 a)/\(wr.alloc (BR d c)).cell? ⟨B+1+1,0,none⟩=some (.int .i64 b)):=⟨by simp,by simp,(MU wr _ none).cell e1 (by simp),(MU wr _ none).cell e2 (by simp)⟩;have H:Hid (Kept n₀ B W wr/\J pre wr/\pre.map (·.1)=Bl.within a b (l.take k)):=⟨g,z,t⟩;clear e1 e2 c0 c1 c2 g z t
   gi_wp2
   refine wpIn_wide.2 ?_;obtain⟨w1,C⟩:=qE (wr.alloc (BR d c));obtain⟨R,hR⟩:=qE wr.1.size;rw[C,hR]at V |-
   go_region_held3 (λU=>U.cell? ⟨R,0,none⟩=some (.int .i64 d)/\U.cell? ⟨R,1,none⟩=some (.string c)/\U.cell? ⟨B+1,0,none⟩=some (.int .i64 a)/\U.cell? ⟨B+1+1,0,none⟩=some (.int .i64 b)) (first | exact V.out | assumption | exact rj (by assumption) (by assumption)) (first | (go_at_call 174;refine (zG d c _ (by omega) (by omega)).mono ?_;rintro e F ⟨rfl,h⟩))
   all_goals
    as_aux_lemma =>
    obtain⟨f0,f1,f2,f3⟩:F.cell? ⟨R,0,none⟩=some (.int .i64 d)/\F.cell? ⟨R,1,none⟩=some (.string c)/\F.cell? ⟨B+1,0,none⟩=some (.int .i64 a)/\F.cell? ⟨B+1+1,0,none⟩=some (.int .i64 b):=by assumption
    have HG:Hid (wr.grownBy F none):=by
     have E:wr.grownBy w1 none:=by rw[<-C];exact MU _ _ _
     exact cQ E ⟨h.os,h.tape,h.output,h.size,h.block⟩
    have I:Hid _:=hJ _ _ _ none H.out.2.1 HG.out (λr e=>by cases e);have K:Hid _:=H.out.1.trans (Kept.still HG.out);have X:Hid (pre.length<m):=by
     have E:=Ox List.length H.out.2.2;have h2:(Bl.within a b (l.take k)).length<=(l.take k).length:=List.length_filterMap_le _ _;simp only[List.length_map,List.length_take]at E h2;show pre.length<m;omega
    have L:=hH<|show Bl.within a b (l.take (k+1))=Bl.within a b (l.take k)++(Bl.clip a b (d,c)).toList by
     rw[Bl.take_succ l (by omega) u,Bl.Ac]
    have s:Hid (A=max d a/\mn=min (d+c.size) b):=by
     refine⟨?_,?_⟩
     ·rw[<-O];split <;> omega
     ·rw[<-P];split <;> omega
    have M:Hid _:=H.out.2.2;have al:=u;clear h C V H O P u HX
    by_cases hge:mn<=A
    ·have Y:=hH<|show Bl.clip a b (d,c)=none by
      unfold Bl.clip Bl.ee;rw[ME (by have:=s.out;simp only;omega)]
     gi_wp2
     go_roundw
     case rel=>exact⟨k+1,pre,by omega,by go_num,by rw[L.out,Y.out];simpa using M.out,I.out,K.out⟩
     case measure=>simp[intOf];omega
    ·obtain⟨p,hp⟩:=N7 (show 0<=A-d by have:=s.out;omega);obtain⟨q,hq⟩:=N7 (show 0<=mn-d by have:=s.out;omega);have am:p<q:=by omega
     have an:q<=c.size:=by have:=s.out;omega
     have N:=hH<|show Bl.clip a b (d,c)=some (A,c.extract p q) by
      have E:=s.out;unfold Bl.clip Bl.ee;simp only;rw[MC (by omega),<-E.1,<-E.2,hp,hq];simp
     obtain⟨y,hy⟩:∃ y:In a b,y.1=(A,c.extract p q):=by
      obtain⟨g1,g2,g3⟩:=Bl.mg N.out;exact⟨⟨(A,c.extract p q),by simp only at g1 |-;omega,by rw[g2];omega,g3⟩,rfl⟩
     obtain⟨fn,ai,T,aj,D,ab⟩:=hY pre y F I.out X.out;unfold encs at D;rw[hy]at D;simp only at D;have Z:Hid _:=hy;clear hy;have ag:(p:Int)<=(q:Int):=by omega
     have ah:(q:Int)<=(c.size:Int):=by omega
     gi_wp2
     refine ab.mono ?_;rintro e W3 (⟨rfl,ac,ad⟩ | ⟨rfl,Q⟩)
     ·gi_wp2
      go_roundw
      case rel=>exact⟨k+1,pre++[y],by omega,by go_num,by rw[L.out,N.out,NO,M.out];simp[Z.out],ac,K.out.trans ad⟩
      case measure=>simp[intOf];omega
     ·gi_wp2
      refine MK (results_none rfl _ _ _) rfl ?_;exact⟨⟨_,rfl⟩,.inr ⟨_,trivial,Q⟩⟩
  ·obtain rfl:k=m:=by omega
   gi_wp2
   go_end0
   exact⟨⟨_,rfl⟩,.inl ⟨pre,by rw[t,<-w,Ns],z⟩⟩
theorem IF {w:World}{n₀:Nat}{e:TypeId}{size g k cap:Nat}{xs:List Value}(h:w.ownsRow n₀ e size (.slice (some ⟨g,0,none⟩) k cap) k xs)(j)(u) :
  (w.setCell ⟨g,j,none⟩ u).ownsRow n₀ e size (.slice (some ⟨g,0,none⟩) k cap) k (xs.set j u):=by
 refine⟨by rw[OC];exact h.1,.inr ?_⟩;rcases h.2 with⟨a,_⟩ | ⟨q,d,b,f,i,l,a,m,n,o⟩
 ·cases a
 ·simp only[Value.slice.injEq,Option.some.injEq,Addr.mk.injEq,and_true,true_and]at f;obtain⟨rfl,rfl⟩:=f;obtain⟨c,p⟩:=MH.1 l;refine⟨g,cap,b.setIfInBounds j u,rfl,i,?_,a,m,by simpa using n,?_⟩
  ·show (w.1.modify g _)[g]?=_;rw[Array.getElem?_eq_getElem (by rw[Array.size_modify];exact c),Array.getElem_modify_self,p];rfl
  ·rw[Array.toList_setIfInBounds,List.take_set,o]
theorem vQ (w:World)(g j:Nat)(u:Value):w.grownBy (w.setCell ⟨g,j,none⟩ u) (some g) :=
 ⟨rfl,rfl,rfl,by simp[World.setCell],λk _ a=>MM _ _ _ k (λe=>a (by rw[e]))⟩
theorem Dv (m)(s:Bl.R)(d):(cellsOf (m++[s])).set (m.length*2+1) (.string d)=cellsOf (m++[(s.1,d)]):=by
 rw[fz,fz,List.set_append_right _ _ (by rw[nK];omega),nK,Nat.add_sub_cancel_left];rfl
theorem ze {w:World}{n₀:Nat}{e:TypeId}{g cap:Nat}{m:List Bl.R}{s:Bl.R}(h:w.ownsRow n₀ e 2 (.slice (some ⟨g,0,none⟩) (m.length+1) cap) (m.length+1) (cellsOf (m++[s]))) :
  w.cell? ⟨g,m.length*2,none⟩=some (.int .i64 s.1)/\w.cell? ⟨g,m.length*2+1,none⟩=some (.string s.2)/\(∀ o,w.frozen? ⟨g,o,none⟩=false)/\g<w.1.size/\n₀<=g/\m.length+1<=maxLen:=by
 have a:=h.lt g rfl;obtain⟨d,f⟩:=jG (m++[s]) m.length qs;have l:(m++[s]).getD m.length (0,.empty)=s:=qs
 rw[l]at d f;have b:=h.cells (g:=g) rfl _ _ d;have c:=h.cells (g:=g) rfl _ _ f;rw[Nu,NS]at b c;rcases h.2 with⟨i,_⟩ | ⟨q,j,n,k,r,p,i,t,u,v⟩
 ·cases i
 ·simp only[Value.slice.injEq,Option.some.injEq,Addr.mk.injEq,and_true,true_and]at k;obtain⟨rfl,rfl⟩:=k;exact⟨b,c,λo=>by simp[World.frozen?,p],a.2,a.1,qo⟩
theorem Gz {w:World}{n₀:Nat}{e:TypeId}{v:Value}{m:List Bl.R}{s:Bl.R}(h:w.ownsRow n₀ e 2 v (m++[s]).length (cellsOf (m++[s]))):∃ g cap,v=.slice (some ⟨g,0,none⟩) (m.length+1) cap:=by
 rcases h.2 with⟨_,a⟩ | ⟨g,cap,_,rfl,_⟩
 ·simp at a
 ·exact⟨g,cap,qs⟩
theorem BL {w' w'':World}{R g o:Nat}{x0 x1 x2 x3:Value}(h:w'.cell? ⟨R,0,none⟩=some x0/\w'.cell? ⟨R,1,none⟩=some x1/\w'.cell? ⟨g,o,none⟩=some x2/\w'.cell? ⟨g,o+1,none⟩=some x3)(hg:w'.grownBy w'' none) :
  w''.cell? ⟨R,0,none⟩=some x0/\w''.cell? ⟨R,1,none⟩=some x1/\w''.cell? ⟨g,o,none⟩=some x2/\w''.cell? ⟨g,o+1,none⟩=some x3 :=
 ⟨hg.cell h.1 qs,hg.cell h.2.1 qs,hg.cell h.2.2.1 qs,hg.cell h.2.2.2 qs⟩
theorem join_nil (n₀)(v)(xa)(xs)(w)(hrow:w.ownsRow n₀ 114 2 v 0 [])(hbase:n₀<=w.1.size) :
  Calls Tryz.prog 181 #[v,.agg #[.int .i64 xa,.string xs]] w λe w'=>∃ v',e=.returned v'/\w'.ownsRow n₀ 114 2 v' 1 (cellsOf [(xa,xs)])/\w.grownBy w' v.ownBlock:=by
 obtain⟨j,k,d,f,h⟩:=NQ xT;obtain⟨i,b,rfl⟩:∃ i b,v=.slice i 0 b:=by
  rcases hrow.2 with⟨rfl,_⟩ | ⟨g,b,_,rfl,_⟩
  ·exact⟨_,_,rfl⟩
  ·exact⟨_,_,rfl⟩
 go_enter Tryz.func181,Tryz.ntmps181;go_wp2
 go_quiet (fail)
 go_wp2_with (at_builtin;refine OP _ rfl (.tmp 32) (.tmp 34) 84 rfl n₀ 114 j (.agg #[.int .i64 0,.string ⟨#[]⟩]) 2 24 Tryz.underlying84 k d f h rfl qd _ _ _ rfl ((sk (hrow.alloc _) _).alloc _) ⟨w.1.size+1,0,none⟩ 1 1 [.int .i64 xa,.string xs] rfl rfl (my _ _ qs _ _ _) (Bn _ _) (by unfold maxLen;omega) qo qt ?_;intro l m c a _)
 go_ret;exact⟨l,rfl,c,cQ (cQ (AY (MU w _ _) _) (MU _ _ _)) a⟩
theorem jh (n₀:Nat)(v:Value)(m:List Bl.R)(s:Bl.R)(xa:Int)(xs:ByteArray) (w:World) (hrow:w.ownsRow n₀ 114 2 v (m++[s]).length (cellsOf (m++[s]))) (hbase:n₀<=w.heap.size)
  (hs0:-9223372036854775808<=s.1) (hs1:s.1+s.2.size<=1048576) (hx:xs.size<=1048576) (hz:s.2.size<=4611686018427387904) (hlen:m.length<=1073741824) :
  Calls Tryz.prog 181 #[v,.agg #[.int .i64 xa,.string xs]] w λe w'=>∃ v',e=.returned v'/\w'.ownsRow n₀ 114 2 v' (Bl.join (m++[s]) (xa,xs)).length (cellsOf (Bl.join (m++[s]) (xa,xs)))/\w.grownBy w' v.ownBlock:=by
 obtain⟨Q,S,D,E,F⟩:=NQ xT;have A:Hid (Bl.join (m++[s]) (xa,xs)=if s.1+s.2.size=xa then m++[(s.1,s.2++xs)] else m++[s]++[(xa,xs)]):=Bl.jh m s (xa,xs);obtain⟨g,l,rfl⟩:=Gz hrow;rw[show (m++[s]).length=m.length+1 by simp]at hrow;obtain⟨y,z,k,W,T,u⟩:=ze hrow;unfold maxLen at u;obtain⟨b,a⟩:=s;simp only at hs0 hs1 hz y z A;obtain⟨n,G⟩:=qE m.length;have x:Hid (m.length=n):=G;rw[G]at hrow y z u hlen |-;clear G;have I:Hid ((w.alloc (BR xa xs)).cell? ⟨w.heap.size,0,none⟩=some (.int .i64 xa)/\(w.alloc (BR xa xs)).cell? ⟨w.heap.size,1,none⟩=some (.string xs)/\(w.alloc (BR xa xs)).cell? ⟨g,n*2,none⟩=some (.int .i64 b)/\(w.alloc (BR xa xs)).cell? ⟨g,n*2+1,none⟩=some (.string a)) :=
  ⟨by simp,by simp,(MU w _ none).cell y (by simp),(MU w _ none).cell z (by simp)⟩
 have M:Hid (w.ownsRow n₀ 114 2 (.slice (some ⟨g,0,none⟩) (n+1) l) (n+1) (cellsOf (m++[(b,a)]))):=hrow;have J:Hid (w.grownBy (w.alloc (BR xa xs)) none):=MU w _ none;have N:=hH<|show w.heap.size<(w.alloc (BR xa xs)).heap.size by simp
 have r:¬ g=w.1.size:=by omega
 have V:¬ 9223372036854775807<a.size+xs.size:=by omega
 have O:decide ((0:Int)<=(n:Int))=true:=by simp
 have P:(n:Int)<(n:Int)+1:=by omega
 clear hrow y z k;go_enter Tryz.func181,Tryz.ntmps181;go_wp2;obtain⟨X,p⟩:=qE (w.alloc (BR xa xs));obtain⟨R,H⟩:=qE w.1.size;rw[p,H]at I N;rw[p]at J;rw[H]at r;rw[p,H]
 go_region_held3 (λw'=>w'.cell? ⟨R,0,none⟩=some (.int .i64 xa)/\w'.cell? ⟨R,1,none⟩=some (.string xs)/\w'.cell? ⟨g,n*2,none⟩=some (.int .i64 b)/\w'.cell? ⟨g,n*2+1,none⟩=some (.string a)) (first | exact I.out | assumption | exact BL (by assumption) (by assumption)) (first | (go_at_call 174;refine (zG b a _ (by omega) (by omega)).mono ?_;rintro e d ⟨rfl,c⟩))
 obtain⟨Y,Z,f2,f3⟩:d.cell? ⟨R,0,none⟩=some (.int .i64 xa)/\d.cell? ⟨R,1,none⟩=some (.string xs)/\d.cell? ⟨g,n*2,none⟩=some (.int .i64 b)/\d.cell? ⟨g,n*2+1,none⟩=some (.string a):=by assumption
 have f:=hH<|cQ J.out ⟨c.os,c.tape,c.output,c.size,c.block⟩;have t:d.ownsRow n₀ 114 2 (.slice (some ⟨g,0,none⟩) (n+1) l) (n+1) (cellsOf (m++[(b,a)])):=M.out.kept f.out (.inr (by simp[Value.ownBlock]));have j:=hH t;have k:=λo=>(show d.frozen? ⟨g,o,none⟩=false from by
  have h:=j.out;rw[<-x.out]at h;exact (ze h).2.2.1 o)
 have K:n₀<=d.1.size:=MS hbase f.out.size;clear c t
 by_cases ht:b+(a.size:Int)=xa
 ·have B:(b+(a.size:Int)==xa)=true:=by simpa using ht
  have C:Hid (Bl.join (m++[(b,a)]) (xa,xs)=m++[(b,a++xs)]):=by rw[A.out,MC ht];rfl
  clear ht;go_wp2
  go_region
  all_goals
   go_wp2;go_ret;refine⟨_,rfl,?_,?_⟩
   ·have h:=IF j.out (n*2+1) (.string (a++xs));have L:=Dv m (b,a) (a++xs);rw[x.out]at L;rw[L]at h;rw[C.out,show (m++[(b,a++xs)]).length=n+1 by simp[x.out]];exact h
   ·have h:=cQ (wg f.out (some g)) (vQ d g (n*2+1) (.string (a++xs)));exact⟨h.os,h.tape,h.output,h.size,h.block⟩
 ·have B:(b+(a.size:Int)==xa)=false:=by simpa using ht
  have C:Hid (Bl.join (m++[(b,a)]) (xa,xs)=m++[(b,a)]++[(xa,xs)]):=by rw[A.out,ME ht];rfl
  clear ht k
  go_wp2_with (at_builtin;refine OP _ rfl (.tmp 32) (.tmp 34) 84 rfl n₀ 114 Q (.agg #[.int .i64 0,.string ⟨#[]⟩]) 2 24 Tryz.underlying84 S D E F rfl (by decide) _ _ _ rfl (j.out.alloc _) ⟨d.1.size,0,none⟩ 1 1 [.int .i64 xa,.string xs] rfl rfl (my _ _ rfl _ _ _) (Bn _ _) (by unfold maxLen;omega) (by omega) (by simp;omega) ?_;intro U w3 q i _)
  go_ret;refine⟨U,rfl,?_,?_⟩
  ·rw[C.out,fz,MW,MW,x.out];exact q
  ·exact cQ (cQ (wg f.out _) (MU _ _ _)) i
structure Fit (out:List Bl.R):Prop where
 low:∀ r∈out,-9223372036854775808<=r.1/\Bl.ee r<=1048576
 size:Bl.total out<=4611686018427387904
 len:out.length<=1073741824
theorem pR (n₀)(v)(out)(x:Bl.R)(w)(hrow:w.ownsRow n₀ 114 2 v out.length (cellsOf out))(hbase:n₀<=w.1.size)(hf:Fit out)(hx:x.2.size<=1048576) :
  Calls Tryz.prog 181 #[v,.agg #[.int .i64 x.1,.string x.2]] w λe w'=>∃ v',e=.returned v'/\w'.ownsRow n₀ 114 2 v' (Bl.join out x).length (cellsOf (Bl.join out x))/\w.grownBy w' v.ownBlock:=by
 rcases Bl.fP out with rfl | ⟨m,s,rfl⟩
 ·exact join_nil n₀ v x.1 x.2 w hrow hbase
 ·have a:=hf.low s qs;have c:s.2.size<=Bl.total (m++[s]):=Bl.Eo (by simp);have d:=hf.size;have b:=hf.len;unfold Bl.ee at a;exact jh n₀ v m s x.1 x.2 w hrow hbase a.1 a.2 hx qo (by simp at b;omega)
end Go.Proofs.YtiifhfmekbhlnaaGreat.Bs
namespace Go.Proofs.YtiifhfmekbhlnaaGreat.Bs
open RowKit Go.Shelf
theorem yI {W w1:World}{n₀ O:Nat}{v v':Value}{k m:Nat}{xs ys:List Value}(hv:Boxed W O 84 v)(hrow:W.ownsRow n₀ 114 2 v k xs)(hn:n₀<=W.1.size)(hO:n₀<=O)(hown':w1.ownsRow n₀ 114 2 v' m ys)(hgrow:W.grownBy w1 v.ownBlock) :
  Boxed w1 O 84 v/\Boxed (w1.setCell ⟨O,0,none⟩ v') O 84 v'/\(w1.setCell ⟨O,0,none⟩ v').ownsRow n₀ 114 2 v' m ys/\KeepsOthers W (w1.setCell ⟨O,0,none⟩ v')/\Below n₀ W (w1.setCell ⟨O,0,none⟩ v') /\
   (∀ B t u,t≠114->B≠O->Boxed W B t u->Boxed (w1.setCell ⟨O,0,none⟩ v') B t u):=by
 have a:=hv.kept hgrow (hv.not_row qd hrow);refine⟨a,a.set v',hown'.kept (grownBy_setCell' w1 O v') (.inr (a.not_row qd hown').symm),?_,?_,λB t u l n c=>?_⟩
 ·refine (KeepsOthers.of_grownBy hgrow λj o b i=>?_).trans (KeepsOthers.setCell _ _ _);rcases hrow.2 with⟨rfl,_⟩ | ⟨g,d,f,rfl,_,h,_⟩
  ·simp[Value.ownBlock]at b
  ·obtain rfl:g=j:=by simpa [Value.ownBlock]using b
   rw[h]at i;cases i;rfl
 ·refine ((MJ n₀ W).grown hgrow hn λj b=>?_).setCell (p:=⟨O,0,none⟩) hO v';rcases hrow.2 with⟨rfl,_⟩ | ⟨g,d,f,rfl,c,_,_⟩
  ·simp[Value.ownBlock]at b
  ·obtain rfl:g=j:=by simpa [Value.ownBlock]using b
   exact c
 ·exact (c.kept hgrow (c.not_row l hrow)).other n v'
def jn (W:World) (B:Nat) (lv:Value) (a b:Int):Prop:=Boxed W B 84 lv/\Boxed W (B+1) 3 (.int .i64 a)/\Boxed W (B+1+1) 3 (.int .i64 b)
theorem jn.kept {n₀ B:Nat}{lv:Value}{a b:Int}{W W':World}(h:jn W B lv a b)(h':jn W' B lv a b)(hb:Below n₀ W W'):Kept n₀ B W W':=by
 refine⟨hb.size,λk c g=>?_⟩;rcases c with c | ⟨d,f⟩
 ·exact hb.block k c
 ·have c:k=B\/k=B+1\/k=B+1+1:=qo
  rcases c with rfl | rfl | rfl
  ·exact (show W'.1[k]?=_ from h'.1).trans (show W.1[k]?=_ from h.1).symm
  ·exact (show W'.1[B+1]?=_ from h'.2.1).trans (show W.1[B+1]?=_ from h.2.1).symm
  ·exact (show W'.1[B+1+1]?=_ from h'.2.2).trans (show W.1[B+1+1]?=_ from h.2.2).symm
theorem l6 {β:Type}(B)(lv)(a b):Own (λ(_:β) W=>jn W B lv a b):=λs X Y c d f g =>
 ⟨boxed_own B 84 (λ(_:β)=>lv) s X Y c d.1 f g,boxed_own (B+1) 3 (λ(_:β)=>Value.int .i64 a) s X Y c d.2.1 f g,boxed_own (B+1+1) 3 (λ(_:β)=>Value.int .i64 b) s X Y c d.2.2 f g⟩
theorem jn.alloc {W:World}{B:Nat}{lv:Value}{a b:Int}(h:jn W B lv a b)(o):jn (W.alloc o) B lv a b:=⟨h.1.alloc o,h.2.1.alloc o,h.2.2.alloc o⟩
theorem jM (w:World)(lv:Value)(a b:Int):jn (((w.alloc (.cells #[lv] 84)).alloc (.cells #[.int .i64 a] 3)).alloc (.cells #[.int .i64 b] 3)) w.heap.size lv a b:=by
 refine⟨((Boxed.new w 84 lv).alloc _).alloc _,?_,?_⟩
 ·have h:=(Boxed.new (w.alloc (.cells #[lv] 84)) 3 (.int .i64 a)).alloc (.cells #[.int .i64 b] 3);rw[NV]at h;exact h
 ·have h:=Boxed.new ((w.alloc (.cells #[lv] 84)).alloc (.cells #[.int .i64 a] 3)) 3 (.int .i64 b);rw[NV,NV]at h;exact h
theorem mm {β:Type}(B:Nat)(c:Array Value)(t:TypeId):Own (λ(_:β) W=>W.1[B]?=some (.cells c t (0,0))):=λs X Y g b h a =>
 (h.block B (qL b) (λi=>by obtain⟨o,d,f⟩:=a B i.symm;rw[b]at d;cases d;cases f)).trans b
theorem AD {β:Type}{B D:Nat}(o)(hD:D<B):OwnFrom B (λ(_:β) W=>W.1[D]?=some o):=λs X Y c b d a =>
 (d.block D (qL b) (λf=>by have:=(a D f.symm).1;omega)).trans b
theorem tD {w:World}{n₀:Nat}{e:TypeId}{v:Value}{k:Nat}{xs:List Value}(h:w.ownsRow n₀ e 2 v k xs)(hk:0<k):∃ g cap,v=.slice (some ⟨g,0,none⟩) k cap:=by
 rcases h.2 with⟨_,a⟩ | ⟨g,cap,_,rfl,_⟩
 ·omega
 ·exact⟨g,cap,rfl⟩
theorem Bl.pJ (l)(r:Bl.R):0<(Bl.join l r).length:=by
 rcases Bl.fP l with rfl | ⟨m,s,rfl⟩
 ·simp[Bl.join_nil]
 ·rw[Bl.jh];split <;> simp
theorem cU {w:World}{b:Nat}{x y:Value}{t:TypeId}{fr:Nat × Nat}(hb:w.1[b]?=some (.cells #[x,y] t fr)):w.cell? ⟨b,0,none⟩=some x/\w.cell? ⟨b,1,none⟩=some y:=by
 constructor <;> simp[World.cell?,hb]
theorem kQ (n)(hn:1<=n)(B n₀)(lv)(l)(a b)(hr:Bl.right (-1) l)(w)(hn0:n₀<=w.1.size)(hB:B+3<=w.1.size)(hF:cT n₀ w lv l)(h3:jn w B lv a b) :
  SeqStopsK Fence.wide n Tryz.prog 202 #[.pointer (some ⟨B,0,none⟩),.pointer (some ⟨B+1,0,none⟩),.pointer (some ⟨B+1+1,0,none⟩)] (encs (a:=a) (b:=b)) (Kept n₀ B) (λys=>ys.map (·.1)=Bl.within a b l) (λ_=>True) l.length w:=λo J q W c r _ s t=>by
 have d:=hF.below (c.mono hn0) qn;obtain⟨j,f,rfl,k,m⟩:=d.open;have u:=c.size;have g:=(c.cell (p:=⟨B,0,none⟩) (by show B<_;omega)).trans h3.1.cell;have h:=(c.cell (p:=⟨B+1,0,none⟩) (by show B+1<_;omega)).trans h3.2.1.cell;have i:=(c.cell (p:=⟨B+1+1,0,none⟩) (by show B+1+1<_;omega)).trans h3.2.2.cell;exact tq n hn o B n₀ j f l a b hr J q W qo qo k m g h i r s t
def Bl.low (l:List Bl.R):Prop:=∀ r∈l,0<=r.1/\Bl.ee r<=1048576
theorem Bl.Af {l:List Bl.R}{x:Bl.R}(h:Bl.low l)(hx:0<=x.1/\Bl.ee x<=1048576):Bl.low (Bl.join l x):=by
 rcases Bl.fP l with rfl | ⟨m,s,rfl⟩
 ·intro r a;simp only[Bl.join_nil,List.mem_singleton]at a;subst a;exact hx
 ·rw[Bl.jh];split
  ·rename_i he
   intro r a;rcases Na.1 a with a | a
   ·exact h r (Oh _ a)
   ·simp only[List.mem_singleton]at a;subst a;have b:=h s qs;refine⟨b.1,?_⟩;unfold Bl.ee at *;simp only[Bl.size_append];omega
  ·intro r a;rcases Na.1 a with a | a
   ·exact h r a
   ·simp only[List.mem_singleton]at a;subst a;exact hx
theorem Bl.rW {xs:List Bl.R}:∀ {l:List Bl.R},Bl.low l->Bl.low xs->Bl.low (Bl.eC l xs):=by
 induction xs with
 | nil=>intro l h _;exact h
 | cons x xs ih=>intro l h a;exact ih (Bl.Af h (a x qs)) (λr b=>a r (by simp[b]))
theorem Bl.wo {xs:List Bl.R}(h:Bl.low xs):Bl.total xs<=xs.length*1048576:=by
 induction xs with
 | nil=>simp[Bl.total]
 | cons x xs ih =>
  have a:=ih (λr c=>h r (by simp[c]));have b:=h x qs;unfold Bl.ee at b;simp only[Bl.total,List.map_cons,List.sum_cons,List.length_cons]at a |-;omega
theorem Bl.fit {l xs:List Bl.R}(h:Bl.low l)(hl:l.length<=4194304)(hx:Bl.low xs)(hn:xs.length<=4194304):Fit (Bl.eC l xs):=by
 have a:=Bl.rW h hx;have c:=Bl.wo h;have d:=Bl.wo hx;refine⟨λr b=>⟨by have:=(a r b).1;omega,(a r b).2⟩,?_,?_⟩
 ·rw[Bl.AU];omega
 ·have:=Bl.mA xs l;omega
theorem yH {a b:Int}(ha:0<=a)(hb:b<=1048576)(pre:List (In a b)):Bl.low (pre.map (·.1)):=by
 intro r c;obtain⟨y,_,rfl⟩:=NI.1 c;have:=y.2;exact⟨qo,qo⟩
theorem xQ {a b:Int}(ha:0<=a)(hb:b<=1048576)(x:In a b):x.1.2.size<=1048576:=by
 have:=x.2;unfold Bl.ee at this;omega
end Go.Proofs.YtiifhfmekbhlnaaGreat.Bs
namespace Go.Proofs.YtiifhfmekbhlnaaGreat.Bs
namespace Bl
def gC (at_:Int) (m:Nat) (l:List R):List UInt8:=(List.range m).map λ(q:Nat)=>look 0 (at_+(q:Int)) (oN l)
theorem ji (at_)(m)(l):(gC at_ m l).length=m:=by simp[gC]
theorem GD (at_)(m):gC at_ m []=List.replicate m 0:=by
 apply List.ext_getElem
 ·simp[gC]
 ·intro i a b
  simp[gC,oN,look]
theorem EZ (at_ : Int)(m : Nat)(l : List R)(x : R)(o : Nat) (ho : x.1=at_+(o : Int)) (hm : o+x.2.size ≤ m) :
  gC at_ m (l++[x])=(gC at_ m l).take o++x.2.data.toList++(gC at_ m l).drop (o+x.2.size):=by
 have k:=ji at_ m l;have a:x.2.data.toList.length=x.2.size:=by simp
 apply List.ext_getElem
 ·simp only[ji,List.length_append,List.length_take, List.length_drop, a]
  omega
 ·intro i c n
  rw[ji]at c;have d:(gC at_ m (l++[x]))[i]'(by rw[ji];exact c)=if x.1<=at_+(i:Int)/\at_+(i:Int)<ee x then (bs x).getD (at_+(i:Int)-x.1).toNat 0 else look 0 (at_+(i:Int)) (oN l):=by
   simp only[gC,List.getElem_map,List.getElem_range,zh,zO];rw[show oN [x]=one x by simp[oN],Ht]
  rw[d];have b:∀ (j:Nat) (h:j<(gC at_ m l).length),(gC at_ m l)[j]=look 0 (at_+(j:Int)) (oN l):=λj h=>by simp[gC]
  unfold ee
  by_cases h3:i<o
  ·rw[ME qo,List.getElem_append_left (by simp only[List.length_append,List.length_take,a];omega),List.getElem_append_left (by simp only[List.length_take];omega),List.getElem_take,b]
  ·by_cases h4 : i<o+x.2.size
   ·rw[MC (by omega),List.getElem_append_left (by simp only[List.length_append,List.length_take,a];omega),List.getElem_append_right (by simp only[List.length_take];omega)]
    have f:(at_+(i:Int)-x.1).toNat=i-o:=by omega
    have g:((gC at_ m l).take o).length=o:=by simp only[List.length_take];omega
    rw[f];simp only[g];unfold bs;rw[List.getD_eq_getElem?_getD,MF qo];rfl
   ·rw[ME qo,List.getElem_append_right (by simp only[List.length_append,List.length_take,a];omega),List.getElem_drop,b]
    congr 1
    simp only[List.length_append,List.length_take,a];omega
theorem Aa (at_)(m)(l):gC at_ m (within at_ (at_+m) l)=gC at_ m l:=by
 unfold gC;apply Pg
 intro q a;have:=O8.1 a;rw[zd,zB];intro p _ b;unfold LS;simp;omega
def fu (l:List R) (size at_ n:Int):Int:=if right (-1) l then if size<0\/1048576<size\/at_<0\/n<0\/512<n then 1 else 0 else 80
def xD (l:List R) (size at_ n:Int):ByteArray:=if fu l size at_ n=0 then jA (gC at_ (min n (size-at_)).toNat l) else jA []
end Bl
variable {P:Program} {ops:Array Oper} {Q:Exit->Act->World->Prop} {md:Region.Mode}
theorem BV {o:Oper}{a:Act}{w:World}{K:Act->World->Prop}(l n)(hd:∀ c,o.op≠.defer c)(h:o.wp P a w K Q):o.wpIn (Fence.wide.inRound l) n P a w K Q:=by
 refine⟨λ_ _=>trivial,?_⟩;rw[Oper.semAt_eq _ _ _ hd];unfold Oper.wp at h;generalize (execOp a.eval o).run P w=r at *
 cases r with
 | ok x w' =>
  cases x with
  | value v=>exact h
  | skip=>exact h
  | defer d=>exact h
  | enter f args=>exact⟨λb=>(by cases b),CallsIn.inRound l (N8.2 h)⟩
  | row r args=>exact⟨λb=>(by cases b),λc g _=>let ⟨v,w2,r,s⟩:=h c g;⟨v,w2,r,stepsIn_wide.2 s⟩⟩
  | round l f tmps assign body=>exact h.elim
  | _=>exact h.elim
 | halt x w'=>cases x <;> first | exact h | exact h.elim
theorem oC (l n )(hd : ∀ (i : Nat)(o : Oper),ops[i]?=some o → ∀ c,o.op≠.defer c)(hQ : ¬ LetsOut Q) :
  ∀ (fuel:Nat) (listed:Array Bool) (a:Act) (w:World),wpAny P md ops Q fuel listed a w->wpAnyIn (Fence.wide.inRound l) n P md ops Q fuel listed a w
 | 0,_,_,_,h=>h
 | fuel+1,listed,a,w,h => by
  refine⟨h.1,λi hi=>?_⟩;have hw:=h.2 i hi;unfold wpOp at hw;unfold wpOpIn
  cases ho:ops[i]? with
  | none=>rw[ho]at hw;exact oC l n hd hQ fuel _ _ _ hw
  | some o =>
   rw[ho]at hw;simp only at hw |-;split
   ·rename_i hc
    rw[MC hc]at hw;rcases hw with hw | hw
    ·exact Oper.wpIn_mono (λa' w' h'=>oC l n hd hQ fuel _ a' w' h') (BV l n (hd i o ho) hw)
    ·exact absurd hw.2 hQ
   ·rename_i hc
    rw[ME hc]at hw;exact⟨λ_ _=>trivial,oC l n hd hQ fuel _ _ _ hw⟩
def yT (o:Oper):Bool:=match o.op with | .defer _=>false | _=>true
theorem Hc (h:ops.toList.all yT=true):∀ (i:Nat) (o:Oper),ops[i]?=some o->∀ c,o.op≠.defer c:=by
 intro i o a c d;have b:o∈ops.toList:=by
  rw[<-Nw]at a;exact MG a
 have:=Ok.1 h o b;unfold yT at this;rw[d]at this
 cases this
end Go.Proofs.YtiifhfmekbhlnaaGreat.Bs
namespace Go.Proofs.YtiifhfmekbhlnaaGreat.Bs
open RowKit Go.Shelf Deep
attribute [local go_sem] O4
theorem Db:(Tryz.prog.info? 5).map (λi=>(i.zero,i.size,i.bytes))=some (some (.int .u8 0),1,1):=qk
theorem E8 {P:Program}{ops:Array Oper}{Q:Exit->Act->World->Prop}{i:Nat}{o:Oper}{K:Act->World->Prop}{a:Act}{w w':World}{v:Value}(hi:ops[i]?=some o)(hg:o.guard=none)(d x:Operand)(dT sT:TypeId)(hop:o.op=Op.call { callee:=Callee.builtin Builtin.copy,args:=#[d,x],argTypes:=#[dT,sT] })(dv xv)(hd:a.eval d=dv)(hx:a.eval x=xv)(hrun:(Builtin.copy_ #[dT,sT] o.type #[dv,xv]).run P w=.ok v w')(hK:K (a.put o.dst v) w'):wpOp P ops Q i K a w:=by
 unfold wpOp;rw[hi];simp only;rw[MC (by simp[Region.wanted,hg])];left;unfold Oper.wp execOp;simp only[hop,resolve,invoke,builtin,Sem.run_bind,Sem.run_pure,Result.andThen_ok,List.map_toArray,List.map_cons,List.map_nil,hd,hx,hrun];exact hK
theorem EC (m):madeCells #[Value.int .u8 0] m=(Lib.byteCells (List.replicate m 0)).toArray:=by
 apply Array.ext'
 simp[madeCells,Lib.byteCells,Nat.mod_one];apply List.ext_getElem <;> simp
theorem mZ (W)(b len cap)(xs:List UInt8)(hlen:xs.length=len)(hb:W.1[b]?=some (.cells (Lib.byteCells xs).toArray 5 (0,0))) :
  (convert 132 9 (.slice (some ⟨b,0,none⟩) len cap)).run Tryz.prog W=.ok (.string (Bl.jA xs)) W:=by
 have h:=run_convert_bytes_arg W 132 5 Tryz.underlying132 Tryz.underlying5 b 0 len cap (xs.map λc=>(c.toNat:Int)) (by simpa using hlen) (λi d=>by
  have a:i<xs.length:=qo
  simp[World.cell?,hb,Lib.byteCells,List.getD,a]) 9 Tryz.underlying9
 rw[h,show strOfNums (xs.map λc=>(c.toNat:Int))=Bl.jA ((xs.map λc=>(c.toNat:Int)).map λn=>UInt8.ofNat n.toNat) from rfl];simp[Function.comp_def]
theorem Bg {β:Type}(B:Nat)(c:β->Array Value)(t:TypeId):Own (λ(s:β) W=>W.heap[B]?=some (.cells (c s) t (0,0))):=λs X Y g b h a =>
 (h.block B (qL b) (λi=>by obtain⟨o,d,f⟩:=a B i.symm;rw[b]at d;cases d;cases f)).trans b
theorem Iu (v:Value)(l:List Bl.R)(size at_ n:Int)(m:Nat)(w:World)(hv:cT w.1.size w v l)(eE:dQ l)(hr:Bl.right (-1) l)(h0:0<=at_)(h1:at_<size)(h2:size<=1048576)(h3:0<=n)(h4:n<=512)(hm:(m:Int)=min n (size-at_)) :
  Calls Tryz.prog 158 #[v,.int .i64 size,.int .i64 at_,.int .i64 n] w λe w'=>e=.returned (.tuple #[.string (Bl.jA (Bl.gC at_ m l)),.int .i64 0])/\Below w.1.size w w':=by
 have HE:=hH<|show Bl.err l=0 by unfold Bl.err;rw[MC hr]
 have HV:Hid (cT w.1.size w v l):=hv;obtain⟨ao,aj,rfl,aK,_⟩:=hv.open;clear hv;have aw:(if size-at_<n then size-at_ else n)=(m:Int):=by split <;> omega
 have ax:m<=512:=by omega
 have ay:at_+(m:Int)<=size:=by omega
 clear hm;have az:=run_make_row' (P:=Tryz.prog) 132 5 (.int .u8 0) 1 Tryz.underlying132 Db rfl .i64 .i64 m (by omega) (by omega);have U:Hid (cT w.1.size (w.alloc (.cells #[.int .i64 at_] 3)) (.slice ao l.length aj) l):=HV.out.below (qG _ _) (MI _);have g1:¬ size<0:=by omega
 have g2:¬ 1048576<size:=by omega
 have g3:¬ at_<0:=by omega
 have g4:¬ n<0:=by omega
 have g5:¬ 512<n:=by omega
 have g6:¬ size<=at_:=by omega
 refine (N8 (n:=3)).1 ?_;refine callsIn_of_wp_marks Tryz.func158 rfl trivial ?_ rfl;simp only[Tryz.ntmps158,List.size_toArray,List.length_cons,List.length_nil,Nat.reduceAdd,Nat.reduceSub,Array.replicate_succ,Array.replicate_zero,List.push_toArray,List.append_toArray,List.nil_append,List.cons_append];refine wpIn_wide.2 ?_;go_wp2_with fail;refine (du _ l _ (U.out.mono (by simp)) eE).mono ?_;rintro e d ⟨rfl,s⟩;rw[HE.out];have cA:=(s.cell (p:=⟨w.1.size,0,none⟩) (by simp)).trans (Boxed.new w 3 (.int .i64 at_)).cell;have V:w.1.size<d.1.size:=by have:=s.size;simp at this;omega
 go_wp2_with fail;refine (eJ _ _ _ _ ⟨_,_,_,rfl⟩).mono ?_;rintro e w2 ⟨rfl,rfl⟩;go_wp2;have aC:l.length<=1048577:=by
  have h:(l.length:Int)<=1048576 - -1:=Bl.ks hr (by decide);omega
 have Z:Below w.1.size w d:=(qG _ _).trans (s.mono (by simp));have aa:Boxed d w.1.size 3 (.int .i64 at_):=(s.block _ (by simp)).trans (Boxed.new w 3 (.int .i64 at_));obtain⟨f,ak⟩:=qE (Value.slice ao l.length aj);rw[ak]at HV;rw[ak];clear s U cA;have b3:=jM ((d.alloc (.cells (madeCells #[.int .u8 0] m) 5)).alloc (.cells #[.slice (some ⟨d.1.size,0,none⟩) m m] 132)) f at_ (at_+(m:Int));have bG:(((((d.alloc (.cells (madeCells #[.int .u8 0] m) 5)).alloc (.cells #[.slice (some ⟨d.1.size,0,none⟩) m m] 132)).alloc (.cells #[f] 84)).alloc (.cells #[.int .i64 at_] 3)).alloc (.cells #[.int .i64 (at_+(m:Int))] 3)).1[d.1.size]?=some (.cells (madeCells #[.int .u8 0] m) 5 (0,0)):=by
  refine (ML _ _ _ ?_).trans ((ML _ _ _ ?_).trans ((ML _ _ _ ?_).trans ((ML _ _ _ ?_).trans (MD _ _))))
  all_goals (simp;try omega)
 have bB:=(((Boxed.new (d.alloc (.cells (madeCells #[.int .u8 0] m) 5)) 132 (.slice (some ⟨d.1.size,0,none⟩) m m)).alloc (.cells #[f] 84)).alloc (.cells #[.int .i64 at_] 3)).alloc (.cells #[.int .i64 (at_+(m:Int))] 3);have bA:=((((aa.alloc (.cells (madeCells #[.int .u8 0] m) 5)).alloc (.cells #[.slice (some ⟨d.1.size,0,none⟩) m m] 132)).alloc (.cells #[f] 84)).alloc (.cells #[.int .i64 at_] 3)).alloc (.cells #[.int .i64 (at_+(m:Int))] 3);have am:=Z.size;have u:Below w.1.size w (((((d.alloc (.cells (madeCells #[.int .u8 0] m) 5)).alloc (.cells #[.slice (some ⟨d.1.size,0,none⟩) m m] 132)).alloc (.cells #[f] 84)).alloc (.cells #[.int .i64 at_] 3)).alloc (.cells #[.int .i64 (at_+(m:Int))] 3)):=((((Z.alloc am _).alloc (by simp;omega) _).alloc (by simp;omega) _).alloc (by simp;omega) _).alloc (by simp;omega) _;have ab:(((((d.alloc (.cells (madeCells #[.int .u8 0] m) 5)).alloc (.cells #[.slice (some ⟨d.1.size,0,none⟩) m m] 132)).alloc (.cells #[f] 84)).alloc (.cells #[.int .i64 at_] 3)).alloc (.cells #[.int .i64 (at_+(m:Int))] 3)).1.size=d.1.size+5:=by simp
 simp only[World.size_alloc]at b3 bB;obtain⟨W0,al⟩:=qE (((((d.alloc (.cells (madeCells #[.int .u8 0] m) 5)).alloc (.cells #[.slice (some ⟨d.1.size,0,none⟩) m m] 132)).alloc (.cells #[f] 84)).alloc (.cells #[.int .i64 at_] 3)).alloc (.cells #[.int .i64 (at_+(m:Int))] 3));rw[al]at b3 bG bB bA u ab |-;clear al aa;obtain⟨A,hA⟩:=qE w.1.size;obtain⟨G,hG⟩:=qE d.1.size;rw[hA]at bA u HV V;rw[hG]at b3 bG bB ab V;rw[hA,hG];have an:cT A W0 f l:=HV.out.below u (MI _);have H:madeCells #[Value.int .u8 0] m=(Lib.byteCells (Bl.gC at_ m [])).toArray:=by
  rw[Bl.GD];exact EC m
 rw[H]at bG;refine (wpIn_wide (n:=3)).1 ?_;refine wpIn_rangeFunc_ownH rfl (by omega) (gf:=202) (lb:=#[.pointer (some ⟨G+1+1,0,none⟩),.pointer (some ⟨G+1+1+1,0,none⟩),.pointer (some ⟨G+1+1+1+1,0,none⟩)]) rfl trivial (enters_of Tryz.func202 (by kernel_rfl) rfl)
  (kQ (3-1) (by omega) (G+1+1) A f l at_ (at_+(m:Int)) hr W0 (by omega) (by omega) an b3) (λh k=>pL h k) (qv (by omega) (by omega)) (MJ _ _) (λ_=>rfl)
  (λa W=>(((W.1[G]?=some (.cells (Lib.byteCells (Bl.gC at_ m (a.map (·.1)))).toArray 5 (0,0))/\Boxed W (G+1) 132 (.slice (some ⟨G,0,none⟩) m m))/\Boxed W A 3 (.int .i64 at_))/\jn W (G+1+1) f at_ (at_+(m:Int)))/\Below A w W)
  (λ_ _ _=>False)
  (OwnFrom.and (OwnFrom.and (OwnFrom.and (OwnFrom.and (Own.from (Bg G (λa:List (In at_ (at_+(m:Int)))=>(Lib.byteCells (Bl.gC at_ m (a.map (·.1)))).toArray) 5) _) (Own.from (boxed_own _ _ _) _)) (Own.from (boxed_own _ _ _) _)) (Own.from (l6 _ _ _ _) _)) (ownFrom_below (by omega) (by omega)))
  (λ_ _ _ _ _ hs _ _=>hs)
  ⟨⟨⟨⟨bG,bB⟩,bA⟩,b3⟩,u⟩
  (λx a' W=>∃ g,W.1[g]?=some (.cells #[.int .i64 x.1.1,.string x.1.2] 114 (0,0))/\a' = { tmps:=#[f,.int .i64 size,.int .i64 at_,.int .i64 n,undef,undef,.pointer (some ⟨A,0,none⟩),undef,.string ⟨#[]⟩,.int .i64 0,.pointer (some ⟨G+1,0,none⟩),.pointer (some ⟨g,0,none⟩),.bool false,f,.int .i64 0,.bool false,.bool (decide (size<0)||decide (1048576<size)||decide (at_<0)||decide (n<0)||decide (512<n)),.int .i64 size,.bool (decide (size<0)),.bool (decide (size<0)),.int .i64 size,.bool (decide (1048576<size)),.bool (decide (size<0)||decide (1048576<size)),.bool (decide (size<0)||decide (1048576<size)),.int .i64 at_,.bool (decide (at_<0)),.bool (decide (size<0)||decide (1048576<size)||decide (at_<0)),.bool (decide (size<0)||decide (1048576<size)||decide (at_<0)),.int .i64 n,.bool (decide (n<0)),.bool (decide (size<0)||decide (1048576<size)||decide (at_<0)||decide (n<0)),.bool (decide (size<0)||decide (1048576<size)||decide (at_<0)||decide (n<0)),.int .i64 n,.bool (decide (512<n)),.bool (decide (size<0)||decide (1048576<size)||decide (at_<0)||decide (n<0)||decide (512<n)),.bool (decide (size<=at_)),.int .i64 at_,.int .i64 size,.bool (decide (size<=at_)),.int .i64 n,.int .i64 size,.int .i64 at_,.int .i64 (size-at_),.int .i64 m,.slice (some ⟨G,0,none⟩) m m,f,.int .i64 at_,.int .i64 at_,.slice (some ⟨G,0,none⟩) m m,.int .i64 m,.int .i64 (at_+(m:Int)),.func (.func 202) #[] #[.pointer (some ⟨G+1+1,0,none⟩),.pointer (some ⟨G+1+1+1,0,none⟩),.pointer (some ⟨G+1+1+1+1,0,none⟩)],.agg #[.int .i64 x.1.1,.string x.1.2],undef,undef,undef,undef,undef,undef,undef,undef,undef,undef,undef],defers:=[] })
  (λx a' _ X Y av hs hg hr=>by obtain⟨g,h1,h2⟩:=hs;exact⟨g,mm (β:=Unit) g _ _ () X Y av h1 hg (λr e=>(hr r e).2),h2⟩)
  ?assign ?body ?done ?stop
 case assign =>
  rintro lp a x W K ⟨⟨⟨⟨t,Q⟩,aA⟩,I⟩,E⟩ hK;simp only[encs]
  gi_wp2
  refine hK _ _ ((KeepsOthers.alloc _ _).from _) (Kept.still (MU _ _ _)) ⟨⟨⟨⟨(ML _ _ _ (qL t)).trans t,Q.alloc _⟩,aA.alloc _⟩,I.alloc _⟩,E.alloc (by have:=E.size;omega) _⟩ ⟨W.1.size,MD _ _,rfl⟩
 case body =>
  rintro lp a x a' W _ _ ⟨⟨⟨⟨t,Q⟩,aA⟩,I⟩,E⟩ ⟨g,J,rfl⟩ aL;have aD:=E.size;have cB:=Q.cell;have cA:=aA.cell;obtain⟨x0,x1⟩:=cU J;have hx:=x.2;obtain⟨⟨T,q⟩,ar⟩:=x;simp only at x0 x1 hx;unfold Bl.ee at hx;simp only at hx;obtain⟨aM,aN,aO⟩:=hx;obtain⟨o,ho⟩:=N7 (show 0<=T-at_ by omega);have ap:Tryz.prog.follows .mixedOrders=true:=by kernel_rfl
  have aE:o<=m:=by omega
  have aF:(o:Int)<=(m:Int):=by omega
  have aH:IntKind.i64.wrap (o:Int)=(o:Int):=wrap_small o (by omega);have aI:¬ m=o:=by omega
  have ac:(Lib.byteCells (Bl.gC at_ m (a.map (·.1)))).toArray.size=m:=by simp[Lib.byteCells,Bl.ji]
  have aq:=Lib.run_copy_row_string (P:=Tryz.prog) W.drew 132 9 3 5 G o (m-o) (m-o) q _ 5 Tryz.underlying132 (by kernel_rfl) t (by omega) (by rw[ac];omega);have C:W.drew.cell? ⟨G+1,0,none⟩=some (.slice (some ⟨G,0,none⟩) m m)/\W.drew.cell? ⟨A,0,none⟩=some (.int .i64 at_)/\W.drew.cell? ⟨g,0,none⟩=some (.int .i64 T)/\W.drew.cell? ⟨g,1,none⟩=some (.string q):=⟨cB,cA,x0,x1⟩
  gi_wp2
  refine wpIn_region_any ap ?_;refine oC lp _ (Hc (by kernel_rfl)) ?_ _ _ _ _ ?_
  ·rintro ⟨_,_,h⟩;exact h
  refine wpAny_of_held (S:=λw'=>w'.cell? ⟨G+1,0,none⟩=some (.slice (some ⟨G,0,none⟩) m m)/\w'.cell? ⟨A,0,none⟩=some (.int .i64 at_)/\w'.cell? ⟨g,0,none⟩=some (.int .i64 T)/\w'.cell? ⟨g,1,none⟩=some (.string q)) _ _ _ _ ?_;refine wpAnyH_take (i:=1) (v:=.pointer (some ⟨g,0,none⟩)) rfl (by kernel_rfl) (by kernel_rfl) (by kernel_rfl) (λ_ _ _ h=>h) (Or.inl ⟨by rfl,?_⟩) C ?_
  ·rintro w' ⟨L,M,N,O⟩
   go_simp
  refine wpAnyH_take (i:=6) (v:=.pointer (some ⟨g,1,none⟩)) rfl (by kernel_rfl) (by kernel_rfl) (by kernel_rfl) (λ_ _ _ h=>h) (Or.inl ⟨by rfl,?_⟩) C ?_
  ·rintro w' ⟨L,M,N,O⟩
   go_simp
  refine wpAnyH_take (i:=0) (v:=.slice (some ⟨G,0,none⟩) m m) rfl (by kernel_rfl) (by kernel_rfl) (by kernel_rfl) (λ_ _ _ h=>h) (Or.inl ⟨by rfl,?_⟩) C ?_
  ·rintro w' ⟨L,M,N,O⟩
   go_simp
  refine wpAnyH_take (i:=2) (v:=.int .i64 T) rfl (by kernel_rfl) (by kernel_rfl) (by kernel_rfl) (λ_ _ _ h=>h) (Or.inl ⟨by rfl,?_⟩) C ?_
  ·rintro w' ⟨L,M,N,O⟩
   go_simp
  refine wpAnyH_take (i:=3) (v:=.int .i64 at_) rfl (by kernel_rfl) (by kernel_rfl) (by kernel_rfl) (λ_ _ _ h=>h) (Or.inl ⟨by rfl,?_⟩) C ?_
  ·rintro w' ⟨L,M,N,O⟩
   go_simp
  refine wpAnyH_take (i:=4) (v:=.int .i64 o) rfl (by kernel_rfl) (by kernel_rfl) (by kernel_rfl) (λ_ _ _ h=>h) (Or.inl ⟨by rfl,?_⟩) C ?_
  ·rintro w' ⟨L,M,N,O⟩
   go_simp
  refine wpAnyH_take (i:=5) (v:=.slice (some ⟨G,o,none⟩) (m-o) (m-o)) rfl (by kernel_rfl) (by kernel_rfl) (by kernel_rfl) (λ_ _ _ h=>h) (Or.inl ⟨by rfl,?_⟩) C ?_
  ·rintro w' ⟨L,M,N,O⟩
   go_simp
  refine wpAnyH_take (i:=7) (v:=.string q) rfl (by kernel_rfl) (by kernel_rfl) (by kernel_rfl) (λ_ _ _ h=>h) (Or.inl ⟨by rfl,?_⟩) C ?_
  ·rintro w' ⟨L,M,N,O⟩
   go_simp
  refine wpAnyH_all (rs:=[8]) (by kernel_rfl) (by simp) ?_;intro i hi;obtain rfl:i=8:=by simpa using hi
  refine E8 (w':=W.drew.setRow G (List.take o (Lib.byteCells (Bl.gC at_ m (a.map (·.1)))).toArray.toList++Lib.byteCells q.data.toList++List.drop (o+q.size) (Lib.byteCells (Bl.gC at_ m (a.map (·.1)))).toArray.toList).toArray) (v:=goInt q.size) rfl rfl (.tmp 58) (.tmp 60) 132 9 rfl (.slice (some ⟨G,o,none⟩) (m-o) (m-o)) (.string q) (by simp[Act.eval,Act.put]) (by simp[Act.eval,Act.put]) aq ?_;have ad:¬ A=G:=by omega
  have af:¬ g=G:=λe=>by rw[e,t]at J;simp at J
  obtain⟨B,F⟩:=qE ((List.take o (Lib.byteCells (Bl.gC at_ m (a.map (·.1)))).toArray.toList++Lib.byteCells q.data.toList++List.drop (o+q.size) (Lib.byteCells (Bl.gC at_ m (a.map (·.1)))).toArray.toList).toArray);rw[F];have b:W.grownBy (W.drew.setRow G B) (some G):=⟨rfl,rfl,rfl,by simp,λk _ hk=>setRow_other W.drew G k _ (λe=>hk (by rw[e]))⟩;have ag:Below A W (W.drew.setRow G B):=(MJ A W).grown b (by have:=E.size;omega) (λk e=>by cases e;omega);have z:∀ k,¬ k=G->some k≠some G:=λk hk e=>hk (by cases e;rfl)
  have ah:jn (W.drew.setRow G B) (G+1+1) f at_ (at_+(m:Int)):=⟨I.1.kept b (z _ (by omega)),I.2.1.kept b (z _ (by omega)),I.2.2.kept b (z _ (by omega))⟩;have ai:(W.drew.setRow G B).1[G]?=some (.cells (Lib.byteCells (Bl.gC at_ m ((a++[(⟨(T,q),ar⟩:In at_ (at_+(m:Int)))]).map (λy=>y.1)))).toArray 5 (0,0)):=by
   refine (O1 W.drew G _ _ 5 _ t).trans ?_;rw[<-F,NO,Nx,N3,Bl.EZ at_ m _ (T,q) o (by simp only;omega) (by simp only;omega)];simp[Lib.byteCells,List.map_take,List.map_drop]
  refine⟨⟨(b.cell cB (z (G+1) (by omega))),(b.cell cA (z _ ad)),(b.cell x0 (z _ af)),(b.cell x1 (z _ af))⟩,wpAnyH_done (by kernel_rfl) ?_ _⟩;exact⟨(KeepsOthers.of_grownBy b (λj o ej hj=>by cases ej;rw[t]at hj;cases hj;rfl)).from _,I.kept ah ag,⟨⟨⟨ai,Q.kept b (z _ (by omega))⟩,aA.kept b (z _ ad)⟩,ah⟩,E.trans ag⟩
 case done =>
  rintro D ys W hD au ⟨⟨⟨⟨t,Q⟩,aA⟩,I⟩,E⟩ hK;rw[au,Bl.Aa]at t;have cB:=Q.cell;have aJ:=mZ W G m m (Bl.gC at_ m l) (Bl.ji _ _ _) t;go_wp2;refine⟨by simp,.inl ⟨_,_,rfl,run_takeDeferred hK,?_⟩⟩;refine⟨.tuple #[.string (Bl.jA (Bl.gC at_ m l)),.int .i64 0],by simp[results,Tryz.results158,go_sem],rfl,?_⟩;rw[hA];exact E.trans (belowK_b (w:=W0) (by omega) W D _ (.deferred none) (by omega) hK rfl rfl)
 case stop =>
  rintro D c a W _ _ h _;exact h.elim
theorem Ig (v:Value)(l:List Bl.R)(size at_ n:Int)(w:World)(hv:cT w.1.size w v l)(eE:dQ l) :
  Calls Tryz.prog 158 #[v,.int .i64 size,.int .i64 at_,.int .i64 n] w λe w'=>e=.returned (.tuple #[.string (Bl.xD l size at_ n),.int .i64 (Bl.fu l size at_ n)])/\Bw w w':=by
 have i:Hid _:=hv;have d:Hid (cT w.1.size (w.alloc (.cells #[.int .i64 at_] 3)) v l):=hv.below (qG _ _) qn;obtain⟨x,t,rfl,y,_⟩:=hv.open;clear hv;have c:=(Boxed.new w 3 (.int .i64 at_))
 by_cases hr:Bl.right (-1) l
 ·have g:Hid (Bl.err l=0):=MC hr
  by_cases hb:size<0\/1048576<size\/at_<0\/n<0\/512<n
  ·have H:=hH<|show Bl.fu l size at_ n=1 by unfold Bl.fu;rw[MC hr,MC hb]
   have f:=hH<|show Bl.xD l size at_ n=Bl.jA [] by unfold Bl.xD;rw[H.out,ME qd]
   rw[H.out,f.out];have j:(decide (size<0)||decide (1048576<size)||decide (at_<0)||decide (n<0)||decide (512<n))=true:=by
    simp only[Bool.or_eq_true,decide_eq_true_eq];omega
   go_enter Tryz.func158,Tryz.ntmps158;go_wp2_with fail;refine (du _ l _ (d.mono qs) eE).mono ?_;rintro e h ⟨rfl,a⟩;rw[g.out];have k:=(a.cell (p:=⟨w.1.size,0,none⟩) qs).trans c.cell;have b:Hid _:=(qG _ _).trans (a.mono qs);clear a
   by_cases o:size<0
   ·go_wp2
    go_ret2
    exact⟨rfl,b⟩
   by_cases q:1048576<size
   ·go_wp2
    go_ret2
    exact⟨rfl,b⟩
   by_cases r:at_<0
   ·go_wp2
    go_ret2
    exact⟨rfl,b⟩
   by_cases s:n<0
   ·go_wp2
    go_ret2
    exact⟨rfl,b⟩
   ·have m:512<n:=qo
    go_wp2
    go_ret2
    exact⟨rfl,b⟩
  ·have H:Bl.fu l size at_ n=0:=by unfold Bl.fu;rw[MC hr,ME hb]
   have f:Bl.xD l size at_ n=Bl.jA (Bl.gC at_ (min n (size-at_)).toNat l):=by unfold Bl.xD;rw[MC H]
   by_cases hlt:at_<size
   ·rw[H,f];exact Iu _ l size at_ n (min n (size-at_)).toNat w i eE hr qo hlt qo qo qo qo
   ·rw[H,f,show (min n (size-at_)).toNat=0 by omega];clear H f;have o:¬ size<0:=qo
    have q:¬ 1048576<size:=qo
    have r:¬ at_<0:=qo
    have s:¬ n<0:=qo
    have m:¬ 512<n:=qo
    have u:size<=at_:=qo
    clear hb;go_enter Tryz.func158,Tryz.ntmps158;go_wp2_with fail;refine (du _ l _ (d.mono qs) eE).mono ?_;rintro e h ⟨rfl,a⟩;rw[g.out];have k:=(a.cell (p:=⟨w.1.size,0,none⟩) qs).trans c.cell;have b:Hid _:=(qG _ _).trans (a.mono qs);clear a;go_wp2
    go_ret2
    exact⟨rfl,b⟩
 ·have g:Hid (Bl.err l=80):=ME hr
  have H:Hid (Bl.fu l size at_ n=80):=ME hr
  have f:=hH<|show Bl.xD l size at_ n=Bl.jA [] by unfold Bl.xD;rw[H.out,ME qd]
  rw[H.out,f.out];go_enter Tryz.func158,Tryz.ntmps158;go_wp2_with fail;refine (du _ l _ (d.mono qs) eE).mono ?_;rintro e h ⟨rfl,a⟩;rw[g.out];have b:Hid _:=(qG _ _).trans (a.mono qs);clear a;go_wp2
  go_ret2
  exact⟨rfl,b⟩
end Go.Proofs.YtiifhfmekbhlnaaGreat.Bs
namespace Go.Proofs.YtiifhfmekbhlnaaGreat
open ChangeShapes WideShapes ChangeAt RowKit Deep It
theorem sg {S:Nat->Prop}{w:World}{x:Rw}(h:Good S w x):Bs.cT w.1.size w (.slice x.rp x.rn x.rc) x.i.runs/\Bs.dQ x.i.runs:=⟨h.1.fields,h.2.2.1⟩
namespace Nf
noncomputable def Km (L:List cL) (c:fw):Int:=if gK L c.no c.gen 1 405=0 then Bs.Bl.fu (cY L c.no c.gen).runs (cY L c.no c.gen).size c.pl (min c.n 512) else gK L c.no c.gen 1 405
noncomputable def KP (L:List cL) (c:fw):ByteArray:=if gK L c.no c.gen 1 405=0 then Bs.Bl.xD (cY L c.no c.gen).runs (cY L c.no c.gen).size c.pl (min c.n 512) else ⟨#[]⟩
end Nf
theorem DS {S : Nat → Prop}(vi vo vs : Value)(dn cl : Int)(c : fw)(L : List Rw)(B : Nat)(w : World)(hB : w.1[B]?=some (gj vi vo vs dn cl c))(hv : cD S w vi L) :
  Calls Tryz.prog 132 #[.pointer (some ⟨B,0,none⟩)] w λe w'=>e=.returned (nr (Nf.Km (pl L) c) 0 0 0 0 0 0 (Nf.KP (pl L) c) (.slice none 0 0) 0)/\Bw w w':=by
 have M:=(MH.1 hB).1;obtain⟨W,J⟩:=qF (w.alloc fJ);have k:Hid _:=qB J;have q:Hid _:=qC J;have l:=qK k hB;have U:=hH<|hv.up k.out;have aa:w.1.size<W.1.size:=(MH.1 q.out).1;have ab:B<W.1.size:=(MH.1 l.out).1;obtain⟨E,g⟩:=qE (Nf.Km (pl L) c);obtain⟨D,j⟩:=qE (Nf.KP (pl L) c);rw[g,j];unfold Nf.Km at g;unfold Nf.KP at j;obtain⟨F,z⟩:=qE (Nf.gK (pl L) c.no c.gen 1 405);have HF:=hH z;rw[z]at g j;clear hv hB z;go_enter Tryz.func132,Tryz.ntmps132;go_wp2_with fail;rw[<-J];clear J;refine (oh vi vo vs dn cl c L B W l.out U.out).mono ?_;rintro e p ⟨x,rfl,A,I,f⟩;rw[HF.out]at A |-;obtain⟨Y,G⟩:=qF (p.alloc (jC x));have r:Bw p Y:=by rw[G];exact qG _ _
 have m:Bw W Y:=f.trans (r.mono f.size);have o:=qJ k m;have N:=qK m q;have O:=qK m l;have s:Hid _:=qC G;have HG:=hH<|(I.imp (λ_ _ _=>trivial)).up r;have t:=hH A;have ac:=(MH.1 N.out).1;have ad:=(MH.1 s.out).1;have af:w.1.size≠p.1.size:=by have:=f.size;omega
 have X:w.1.size<p.1.size:=by have:=f.size;omega
 clear f r m I A q l U
 by_cases h0:F=0
 ·rw[MC h0]at g j
  have u:=t.out;rw[MC h0]at u;subst h0;rw[<-u]at g j;obtain⟨Q,C⟩:=qE (min c.n 512);rw[C]at g j;have Z:Hid (∀ V,Bw Y V->Calls Tryz.prog 158 #[.slice x.rp x.rn x.rc,.int .i64 x.i.size,.int .i64 c.pl,.int .i64 Q] V λe w'=>e=.returned (.tuple #[.string D,.int .i64 E])/\Bw V w'):=λV h=>by
   have hg:=sg (HG.out.up h);have:=Bs.Ig (.slice x.rp x.rn x.rc) x.i.runs x.i.size c.pl Q V hg.1 hg.2;rw[g,j]at this;exact this
  have H:Hid (∀ V:World,Bw Y V->V.cell? ⟨p.1.size,3,none⟩=some (.int .i64 x.i.size)/\V.cell? ⟨p.1.size,5,none⟩=some (.slice x.rp x.rn x.rc)/\V.cell? ⟨B,12,none⟩=some (.int .i64 c.pl)/\V.cell? ⟨B,13,none⟩=some (.int .i64 c.n)):=λV h=>by
   obtain⟨-,-,-,-,-,-,-,-,-,-,-,-,R,T,-⟩:=gh O.out;have k3:=cJ s.out 3;have k5:=cJ s.out 5;simp at k3 k5;exact⟨cC k3 h,cC k5 h,cC R h,cC T h⟩
  have P:Hid ((if 512<c.n then 512 else c.n)=Q):=by
   show _=_;rw[<-C];split <;> omega
  clear g j u t C;go_wp2_with fail;rw[<-G];clear G
  go_region_held3 (λV=>V.cell? ⟨p.1.size,3,none⟩=some (.int .i64 x.i.size)/\V.cell? ⟨p.1.size,5,none⟩=some (.slice x.rp x.rn x.rc)/\V.cell? ⟨B,12,none⟩=some (.int .i64 c.pl)/\V.cell? ⟨B,13,none⟩=some (.int .i64 c.n)) (first | (refine H.out _ ?_;(repeat (first | with_reducible assumption | with_reducible exact MJ _ _ | with_reducible refine cX ?_));done)) (first
   | (go_at_call 158;rw[P.out];refine (Z.out _ (by first | exact MJ _ _ | exact cX (MJ _ _))).mono ?_;rintro e K ⟨rfl,a⟩;have b:Bw Y K:=(by first | exact a | exact dH a);clear a))
  all_goals
   have y:=qJ o b;have d:=qK b N;obtain⟨g0,g1,g2,g3,g4,g5,g6,g7,g8,g9⟩:=ev d.out;have gg:=dw d.out;clear b Z H;go_wp2
   refine MK (v:=nr E 0 0 0 0 0 0 D (.slice none 0 0) 0) ?_ rfl ⟨rfl,?_⟩
   ·rw[cN rfl]
    go_simp
   ·repeat (with_reducible refine MP ?_ (by simp) _)
    exact y.out
 ·rw[ME h0]at g j
  subst g;subst j;have hz:(F != 0)=true:=by simpa using h0
  clear t h0;go_wp2_with fail;rw[<-G];clear G;refine (eV F _).mono ?_;rintro e K ⟨rfl,a⟩;have y:=qJ o a;have d:=qK a N;obtain⟨g0,g1,g2,g3,g4,g5,g6,g7,g8,g9⟩:=ev d.out;have gg:=dw d.out;clear a;go_wp2
  refine MK (v:=nr F 0 0 0 0 0 0 ⟨#[]⟩ (.slice none 0 0) 0) ?_ rfl ⟨rfl,?_⟩
  ·rw[cN rfl]
   go_simp
  ·repeat (with_reducible refine MP ?_ (by simp) _)
   exact y.out
end Go.Proofs.YtiifhfmekbhlnaaGreat
namespace Go.Proofs.YtiifhfmekbhlnaaGreat.Bs
open RowKit Go.Shelf
attribute [local go_sem] O4
def Bl.jx (l:List Bl.R) (size:Int):Int:=if Bl.right (-1) l then if size<0 then 1 else 0 else 80
def Bl.o5 (l:List Bl.R) (size:Int):List Bl.R:=if Bl.jx l size=0 then Bl.within 0 size l else []
theorem Gd (W:World)(a b:Value)(T:TypeId):∀ j u,[a,b][j]?=some u->(W.alloc (.cells #[a,b] T)).cell? ((⟨W.1.size,0,none⟩:Addr).add j)=some u:=my W _ rfl a b T
theorem Kd (v:Value)(l:List Bl.R)(size:Int)(w:World)(hv:cT w.1.size w v l)(eE:dQ l)(hr:Bl.right (-1) l)(h0:0<=size) :
  Calls Tryz.prog 162 #[v,.int .i64 size] w λe w'=>∃ r,e=.returned (.tuple #[r,.int .i64 0])/\w'.ownsRow w.1.size 114 2 r (Bl.within 0 size l).length (cellsOf (Bl.within 0 size l))/\Below w.heap.size w w':=by
 obtain⟨i0,hi,T,U,V⟩:=NQ xT;have HE:=hH<|show Bl.err l=0 by unfold Bl.err;rw[MC hr]
 have M:Hid (cT w.1.size w v l):=hv;obtain⟨ao,Z,rfl,hm,_⟩:=hv.open;clear hv;have ad:¬ size<0:=by omega
 refine (N8 (n:=3)).1 ?_;refine callsIn_of_wp_marks Tryz.func162 rfl trivial ?_ rfl;simp only[Tryz.ntmps162,List.size_toArray,List.length_cons,List.length_nil,Nat.reduceAdd,Nat.reduceSub,Array.replicate_succ,Array.replicate_zero,List.push_toArray,List.append_toArray,List.nil_append,List.cons_append];refine wpIn_wide.2 ?_;go_wp2_with fail;refine (du _ l _ M.out eE).mono ?_;rintro e m ⟨rfl,E⟩;rw[HE.out];go_wp2_with fail;refine (eJ _ _ _ _ ⟨_,_,_,rfl⟩).mono ?_;rintro e w2 ⟨rfl,rfl⟩;go_wp2;have L:w.1.size<=m.1.size:=E.size;have af:l.length<=1048577:=by
  have h:(l.length:Int)<=1048576 - -1:=Bl.ks hr (by decide);omega
 obtain⟨p,i⟩:=qE w.1.size;obtain⟨O,F⟩:=qE m.1.size;obtain⟨d,G⟩:=qE (Value.slice ao l.length Z);have z:=jM (m.alloc (.cells #[.slice none 0 0] 84)) d 0 size;rw[NV]at z;have N:=(((Boxed.new m 84 (.slice none 0 0)).alloc (.cells #[d] 84)).alloc (.cells #[.int .i64 0] 3)).alloc (.cells #[.int .i64 size] 3);have g:Below w.1.size w ((((m.alloc (.cells #[.slice none 0 0] 84)).alloc (.cells #[d] 84)).alloc (.cells #[.int .i64 0] 3)).alloc (.cells #[.int .i64 size] 3)) :=
  (((E.alloc L _).alloc (by simp;omega) _).alloc (by simp;omega) _).alloc (by simp;omega) _
 have A:((((m.alloc (.cells #[.slice none 0 0] 84)).alloc (.cells #[d] 84)).alloc (.cells #[.int .i64 0] 3)).alloc (.cells #[.int .i64 size] 3)).1.size=m.1.size+4:=qs
 rw[G,i]at M;rw[G];obtain⟨W0,aa⟩:=qE ((((m.alloc (.cells #[.slice none 0 0] 84)).alloc (.cells #[d] 84)).alloc (.cells #[.int .i64 0] 3)).alloc (.cells #[.int .i64 size] 3));rw[aa]at z N g A |-;rw[F]at z N A L;rw[i]at g L;have P:=M.out.below g qn;rw[F];refine (wpIn_wide (n:=3)).1 ?_;refine wpIn_rangeFunc_ownH rfl qo (gf:=202) (lb:=#[.pointer (some ⟨O+1,0,none⟩),.pointer (some ⟨O+1+1,0,none⟩),.pointer (some ⟨O+1+1+1,0,none⟩)]) rfl trivial (enters_of Tryz.func202 qk rfl)
  (kQ (3-1) qo (O+1) p d l 0 size hr W0 qo qo P z) (λh k=>pL h k) (qv qo qo) (MJ _ _) (λ_=>rfl)
  (λa W=>((∃ v,Boxed W O 84 v/\W.ownsRow p 114 2 v a.length (cellsOf (a.map (·.1)))/\True)/\jn W (O+1) d 0 size)/\Below p w W)
  (λ_ _ _=>False)
  (OwnFrom.and (OwnFrom.and (Own.from (holdsRow_own p O 84 114 2 (λa:List (In 0 size)=>a.length) (λa=>cellsOf (a.map (·.1))) (λ_ _=>True)) _) (Own.from (l6 _ _ _ _) _)) (ownFrom_below qo qo))
  (λ_ _ _ _ _ hs _ _=>hs)
  ⟨⟨⟨_,N,NH _ _ _ _,trivial⟩,z⟩,g⟩
  (λx a' W=>∃ s,W.1[s]?=some (.cells #[.int .i64 x.1.1,.string x.1.2] 114 (0,0))/\a' = { tmps:=#[d,.int .i64 size,undef,undef,.slice none 0 0,.int .i64 0,.pointer (some ⟨O,0,none⟩),.pointer (some ⟨s,0,none⟩),.bool false,d,.int .i64 0,.bool false,.bool (decide (size<0)),.int .i64 size,.bool (decide (size<0)),d,.int .i64 size,.func (.func 202) #[] #[.pointer (some ⟨O+1,0,none⟩),.pointer (some ⟨O+1+1,0,none⟩),.pointer (some ⟨O+1+1+1,0,none⟩)],.agg #[.int .i64 x.1.1,.string x.1.2],undef,undef,undef,undef,undef],defers:=[] })
  (λx a' _ X Y ac hs hg hr=>by obtain⟨s,h1,h2⟩:=hs;exact⟨s,mm (β:=Unit) s _ _ () X Y ac h1 hg (λr e=>(hr r e).2),h2⟩)
  ?assign ?body ?done ?stop
 case assign =>
  rintro lp a x W K ⟨⟨⟨v,y,hv,_⟩,q⟩,j⟩ H;simp only[encs]
  gi_wp2
  refine H _ _ ((KeepsOthers.alloc _ _).from _) (Kept.still (MU _ _ _)) ⟨⟨⟨v,y.alloc _,hv.alloc _,trivial⟩,q.alloc _⟩,j.alloc (by have:=j.size;omega) _⟩ ⟨W.1.size,MD _ _,rfl⟩
 case body =>
  rintro lp a x a' W _ _ ⟨⟨⟨v,y,hv,_⟩,q⟩,j⟩ ⟨s,ab,rfl⟩ ai;have Q:p<=W.1.size:=by have:=j.size;omega
  have cO:=y.cell;obtain⟨x0,x1⟩:=cU ab
  gi_wp2_with (gi_at_builtin;refine wpListIn_append_own _ rfl _ _ 84 rfl p 114 i0 (.agg #[.int .i64 0,.string ⟨#[]⟩]) 2 24 Tryz.underlying84 hi T U V rfl qd _ _ _ rfl (hv.alloc _) ⟨W.1.size,0,none⟩ 1 1 [.int .i64 x.1.1,.string x.1.2] rfl rfl (Gd _ _ _ _) (Bn _ _) (by unfold maxLen;omega) qo qt ?_;intro v' w' f b _;obtain⟨g',I,rfl⟩:=ownsRow_succ f;obtain⟨k1,k2,k3,k4,k5⟩:=y.appended qd hv Q L f b;have S:=λB t u (ht:t≠114) (j:B≠O) (hb:Boxed W B t u)=>((hb.alloc _).kept b (hb.not_row ht hv)).other j (.slice (some ⟨g',0,none⟩) (a.length+1) I);have ag:=k1.cell;have ah:=k1.frozen)
  have C:=(show jn _ (O+1) d 0 size from⟨S _ _ _ qd qo q.1,S _ _ _ qd qo q.2.1,S _ _ _ qd qo q.2.2⟩);exact⟨k4.from _,q.kept C k5,⟨⟨_,k2,by rw[NO,MW,fz];exact k3,trivial⟩,C⟩,j.trans k5⟩
 case done =>
  rintro D ys W hD J ⟨⟨⟨v,y,hv,_⟩,q⟩,j⟩ H;have hl:=Ox List.length J;rw[M8]at hl;rw[J,hl]at hv;have cO:=y.cell;go_wp2;refine⟨qs,.inl ⟨_,_,rfl,run_takeDeferred H,?_⟩⟩;have o:=ownsRow_putObj hv (.deferred none) H rfl;refine⟨.tuple #[v,.int .i64 0],by simp[results,Tryz.results162,go_sem],⟨v,rfl,?_,?_⟩⟩
  ·rw[i];exact o
  ·rw[i];exact j.trans (belowK_b (w:=W0) qo W D _ (.deferred none) qo H rfl rfl)
 case stop =>
  rintro D c a W _ _ h _;exact h.elim
theorem I4 (v)(l)(size)(w)(hv:cT w.1.size w v l)(eE:dQ l) :
  Calls Tryz.prog 162 #[v,.int .i64 size] w λe w'=>∃ r,e=.returned (.tuple #[r,.int .i64 (Bl.jx l size)])/\w'.ownsRow w.1.size 114 2 r (Bl.o5 l size).length (cellsOf (Bl.o5 l size))/\Bw w w':=by
 by_cases hr:Bl.right (-1) l
 ·by_cases h0:size<0
  ·have d:Hid (Bl.err l=0):=MC hr
   have a:Bl.jx l size=1:=by unfold Bl.jx;rw[MC hr,MC h0]
   have b:Bl.o5 l size=[]:=by unfold Bl.o5;rw[a,ME qd]
   rw[a,b];have f:Hid _:=hv;obtain⟨h,g,rfl,i,_⟩:=hv.open;clear hv a b;go_enter Tryz.func162,Tryz.ntmps162;go_wp2_with fail;refine (du _ l _ f eE).mono ?_;rintro e j ⟨rfl,c⟩;rw[d.out];go_wp2
   go_ret2
   exact⟨_,rfl,NH _ _ _ _,c⟩
  ·have a:Bl.jx l size=0:=by unfold Bl.jx;rw[MC hr,ME h0]
   have b:Bl.o5 l size=Bl.within 0 size l:=by unfold Bl.o5;rw[MC a]
   rw[a,b];exact Kd v l size w hv eE hr qo
 ·have d:Hid (Bl.err l=80):=ME hr
  have a:Bl.jx l size=80:=by unfold Bl.jx;rw[ME hr]
  have b:Bl.o5 l size=[]:=by unfold Bl.o5;rw[a,ME qd]
  rw[a,b];have f:Hid _:=hv;obtain⟨h,g,rfl,i,_⟩:=hv.open;clear hv a b;go_enter Tryz.func162,Tryz.ntmps162;go_wp2_with fail;refine (du _ l _ f eE).mono ?_;rintro e j ⟨rfl,c⟩;rw[d.out];go_wp2
  go_ret2
  exact⟨_,rfl,NH _ _ _ _,c⟩
end Go.Proofs.YtiifhfmekbhlnaaGreat.Bs
