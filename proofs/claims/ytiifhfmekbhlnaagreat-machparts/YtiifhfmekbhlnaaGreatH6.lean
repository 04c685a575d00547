/- Part 6. -/
import Derived.Test.YtiifhfmekbhlnaaGreatH5
set_option maxHeartbeats 8000000
set_option maxRecDepth 100000
namespace Go.Proofs.YtiifhfmekbhlnaaGreat
section
open ChangeShapes WideShapes ChangeAt RowKit Deep
namespace Fo
noncomputable def eM (l:List eA) (next:Int) (s:ByteArray) (no gen:Int):Int :=
 if ask l next s=0 then (if Ho no gen then (if ri (called s) l = -1 then (if next=1099511627776 then 407 else 0) else 403) else 1) else ask l next s
theorem tM {l:List eA}{next:Int}{s:ByteArray}{no gen e:Int}(h:ask l next s=e)(he:e≠0):eM l next s no gen=e:=by unfold eM;rw[ME (by rw[h];exact he),h]
theorem GU {l:List eA}{next:Int}{s:ByteArray}{no gen:Int}(h:ask l next s=0)(ho:¬ Ho no gen):eM l next s no gen=1:=by unfold eM;rw[MC h,ME ho]
theorem C5 {l:List eA}{next:Int}{s:ByteArray}{no gen:Int}{k:Nat}(h:ask l next s=0)(ho:Ho no gen)(ha:ri (called s) l=k):eM l next s no gen=403:=by unfold eM;rw[MC h,MC ho,ME (by rw[ha];omega)]
theorem zZ {l:List eA}{next:Int}{s:ByteArray}{no gen:Int}(h:ask l next s=0)(ho:Ho no gen)(ha:ri (called s) l = -1)(hn:next=1099511627776):eM l next s no gen=407:=by unfold eM;rw[MC h,MC ho,MC ha,MC hn]
theorem Fu {l:List eA}{next:Int}{s:ByteArray}{no gen:Int}(h:ask l next s=0)(ho:Ho no gen)(ha:ri (called s) l = -1)(hn:¬ next=1099511627776):eM l next s no gen=0:=by unfold eM;rw[MC h,MC ho,MC ha,ME hn]
end Fo
theorem mr (v)(l)(s)(b k:Nat)(w:World)(hv:ey EE w v l)(hb:b<w.1.size)(hc:w.cell? ⟨b,0,none⟩=some (.string s))(hk:Fo.ri (Fo.called s) l=k) :
  Calls Tryz.prog 222 #[v,VF 224 b] w λe w'=>e=.returned (.bool true)/\Bw w w':=by
 have c:Hid _:=hv;have d:Hid _:=hc;have f:Hid _:=hk;clear hv hc hk;go_enter Tryz.func222,Tryz.ntmps222;go_wp2_with fail;refine (lx v l s b _ c.out hb d.out).mono ?_;rintro e g ⟨rfl,a⟩;rw[f.out];go_wp2;go_ret;exact⟨rfl,a⟩
theorem nR (v)(l)(s)(b)(w)(hv:ey EE w v l)(hb:b<w.1.size)(hc:w.cell? ⟨b,0,none⟩=some (.string s))(hk:Fo.ri (Fo.called s) l = -1) :
  Calls Tryz.prog 222 #[v,VF 224 b] w λe w'=>e=.returned (.bool false)/\Bw w w':=by
 have c:Hid _:=hv;have d:Hid _:=hc;have f:Hid _:=hk;clear hv hc hk;go_enter Tryz.func222,Tryz.ntmps222;go_wp2_with fail;refine (lx v l s b _ c hb d).mono ?_;rintro e g ⟨rfl,a⟩;rw[f.out];go_wp2;go_ret;exact⟨rfl,a⟩
theorem wI (w:World)(v:Value) (next no gen:Int):((w.alloc (BD v next)).alloc (oS no gen)).cell? ⟨w.heap.size,0,none⟩=some v/\((w.alloc (BD v next)).alloc (oS no gen)).cell? ⟨w.heap.size,1,none⟩=some (.int .i64 next) /\
  ((w.alloc (BD v next)).alloc (oS no gen)).cell? ⟨w.heap.size+1,0,none⟩=some (.int .i64 no)/\((w.alloc (BD v next)).alloc (oS no gen)).cell? ⟨w.heap.size+1,1,none⟩=some (.int .i64 gen):=by
 have a:=jL w v next;have b:=MD (w.alloc (BD v next)) (oS no gen);rw[show (w.alloc (BD v next)).1.size=w.1.size+1 by simp]at b;refine⟨(dh qs _ _).trans a.1,(dh qs _ _).trans a.2,?_,?_⟩ <;> simp only[World.cell?,b] <;> rfl
theorem oP (v)(l)(next)(s)(no gen)(w)(hv:ey EE w v l)(hs:∀ x∈l,x.1.size<=maxLen)(hn:s.size<=maxLen) :
  Calls Tryz.prog 216 #[VD v next,.string s,LR no gen] w λe w'=>e=.returned (.int .i64 (Fo.eM l next s no gen))/\Bw w w':=by
 obtain⟨W,p⟩:=qF ((w.alloc (BD v next)).alloc (oS no gen));have d:=hH<|show Bw w W by rw[p];exact (qG _ _).alloc (by simp) _
 have X:w.1.size+1<W.heap.size:=by rw[p];simp
 obtain⟨B,C,D,E⟩:=wI w v next no gen;rw[<-p]at B C D E;have y:=hH<|hv.up d;have L:=hH hs;have n:=hH hn;clear hv hs hn;rcases Fo.ns l next s with⟨i,-,-⟩ | ⟨i,-⟩ | ⟨i,-,-⟩
 ·have G:=hH i
  by_cases ho:Ho no gen
  ·have P:=hH<|MT ho;rcases Fo.wZ (Fo.called s) l with⟨F,-⟩ | ⟨k,x,F,-,-,-⟩
   ·have S:=hH F
    by_cases hx:next=1099511627776
    case' pos=>have q:=hH<|Fo.zZ i ho F hx;have T:(next==1099511627776)=true:=by simp[hx]
    case' neg=>have q:=hH<|Fo.Fu i ho F hx;have T:(next==1099511627776)=false:=by simp[hx]
    all_goals
     clear i ho F hx;go_enter Tryz.func216,Tryz.ntmps216;go_wp2_with fail;rw[<-p];refine (gb v l next s _ y L n).mono ?_;rintro e f ⟨rfl,a⟩;rw[G.out];have b:=hH<|d.out.trans (a.mono d.size);have z:=dG B a qo;have A:=dG C a qo;have M:=dG D a (by omega);have N:=dG E a (by omega);have o:Hid (ey EE f v l):=y.out.up a;have K:=a.size;clear a p B C D E;go_wp2_with fail;refine (j9 no gen _).mono ?_;rintro e O ⟨rfl,rfl⟩;rw[P.out];have h:Hid (Bw w (f.alloc (oS no gen))):=b.out.alloc b.out.size _;have r:Hid (ey EE (f.alloc (oS no gen)) v l):=o.out.up (qG _ _);have H:=(dh qo (oS no gen) 0).trans z;have I:=(dh qo (oS no gen) 1).trans A;have t:=hH H;generalize f.alloc (oS no gen)=O at *;clear z A M N;go_wp2_with fail
     go_region_held3 (λw'=>w'.cell? ⟨w.1.size,0,none⟩=some v) (first | exact t | exact cC qa qa) (first
      | (go_at_call 221;refine (oF s _).mono ?_;rintro e V ⟨Q,rfl,j,m,c⟩)
      | (go_at_call 222;refine (nR _ l s Q _ (r.up (dH c)) j m S).mono ?_;rintro e R ⟨rfl,g⟩))
     have u:Hid (Bw w R):=by
      have J:=h.out.trans ((dH c).mono h.size);exact J.trans (g.mono J.size)
     have U:=cC (cC I (dH c)) g;clear c g j m H I;go_wp2;go_ret;rw[q.out];exact⟨rfl,u⟩
   ·have S:=hH F;have q:=hH<|Fo.C5 i ho F;clear i ho F;go_enter Tryz.func216,Tryz.ntmps216;go_wp2_with fail;rw[<-p];refine (gb v l next s _ y L n).mono ?_;rintro e f ⟨rfl,a⟩;rw[G.out];have b:=hH<|d.out.trans (a.mono d.size);have z:=dG B a qo;have A:=dG C a qo;have M:=dG D a (by omega);have N:=dG E a (by omega);have o:Hid (ey EE f v l):=y.out.up a;have K:=a.size;clear a p B C D E;go_wp2_with fail;refine (j9 no gen _).mono ?_;rintro e O ⟨rfl,rfl⟩;rw[P.out];have h:Hid (Bw w (f.alloc (oS no gen))):=b.out.alloc b.out.size _;have r:Hid (ey EE (f.alloc (oS no gen)) v l):=o.out.up (qG _ _);have H:=(dh qo (oS no gen) 0).trans z;have I:=(dh qo (oS no gen) 1).trans A;have t:=hH H;generalize f.alloc (oS no gen)=O at *;clear z A M N;go_wp2_with fail
    go_region_held3 (λw'=>w'.cell? ⟨w.1.size,0,none⟩=some v) (first | exact t | exact cC qa qa) (first
     | (go_at_call 221;refine (oF s _).mono ?_;rintro e V ⟨Q,rfl,j,m,c⟩)
     | (go_at_call 222;refine (mr _ l s Q k _ (r.up (dH c)) j m S).mono ?_;rintro e R ⟨rfl,g⟩))
    have u:Hid (Bw w R):=by
     have J:=h.out.trans ((dH c).mono h.size);exact J.trans (g.mono J.size)
    have U:=cC (cC I (dH c)) g;clear c g j m H I;go_wp2;go_ret;rw[q.out];exact⟨rfl,u⟩
  ·have P:=hH<|MO ho;have q:Hid (Fo.eM l next s no gen=1):=Fo.GU i ho;clear i ho;go_enter Tryz.func216,Tryz.ntmps216;go_wp2_with fail;rw[<-p];refine (gb v l next s _ y L n).mono ?_;rintro e f ⟨rfl,a⟩;rw[G.out];have b:=qJ d a;have z:=dG B a qo;have A:=dG C a qo;have M:=dG D a qo;have N:=dG E a qo;have o:=hH<|y.out.up a;have K:=a.size;clear a p B C D E;go_wp2_with fail;refine (j9 no gen _).mono ?_;rintro e O ⟨rfl,rfl⟩;rw[P.out];go_wp2;go_ret;rw[q.out];exact⟨rfl,b.out.alloc b.out.size _⟩
 ·have G:=hH i;have q:Hid (Fo.eM l next s no gen=4):=Fo.tM i qd;rw[q.out];clear i;go_enter Tryz.func216,Tryz.ntmps216;go_wp2_with fail;rw[<-p];refine (gb v l next s _ y L.out n.out).mono ?_;rintro e f ⟨rfl,a⟩;rw[G.out];have b:=qJ d a;go_wp2;go_ret;exact⟨rfl,b.out⟩
 ·have G:=hH i;have q:Hid (Fo.eM l next s no gen=409):=Fo.tM i qd;rw[q.out];clear i;go_enter Tryz.func216,Tryz.ntmps216;go_wp2_with fail;rw[<-p];refine (gb v l next s _ y L n).mono ?_;rintro e f ⟨rfl,a⟩;rw[G.out];have b:=qJ d a;go_wp2;go_ret;exact⟨rfl,b⟩
abbrev q8:Obj:=.cells #[.slice none 0 0,.int .i64 0] 155
theorem xH {w:World}{A:Nat}{v:Value}{n:Int}(h:w.1[A]?=some (BD v n)) :
  (w.cell? ⟨A,0,none⟩=some v/\w.cell? ⟨A,1,none⟩=some (.int .i64 n))/\∀ j,w.frozen? ⟨A,j,none⟩=false:=by
 refine⟨⟨?_,?_⟩,λj=>?_⟩ <;> simp[World.cell?,World.frozen?,h]
namespace Fo
theorem ew {l:List eA}{next:Int}(h:fE l next):(l.length:Int)<=next:=by
 have a:∀ k:Nat,k<=l.length->(k:Int)<=o4 l k:=λk=>by
  induction k with
  | zero=>intro _;exact Ng _
  | succ k ih =>
   intro g;have b:l[k]?=some l[k]:=MF (by omega);have c:=h.2.1 k qo _ b;have:=ih qo;rw[ld b];omega
 have d:=a l.length qn;have f:=(uB h.2.1 qn h.1.1).2;omega
theorem add_zero {l:List eA}{next:Int}{s:ByteArray}{no gen:Int}(h:eM l next s no gen=0):fE l next/\Nm.ok s/\Ho no gen/\ri (called s) l = -1/\next≠1099511627776:=by
 rcases ns l next s with⟨a,c,d⟩ | ⟨a,-⟩ | ⟨a,-,-⟩
 ·by_cases hh:Ho no gen
  ·rcases wZ (called s) l with⟨b,-⟩ | ⟨k,x,b,-,-,-⟩
   ·by_cases hx:next=1099511627776
    ·rw[zZ a hh b hx]at h
     cases h
    ·exact⟨c,d,hh,b,hx⟩
   ·rw[C5 a hh b]at h
    cases h
  ·rw[GU a hh]at h
   cases h
 ·rw[tM a qd]at h
  cases h
 ·rw[tM a qd]at h
  cases h
end Fo
abbrev yK (D X:Nat) (v:Value) (x:eA) (w:World):Prop:=w.cell? ⟨D,0,none⟩=some v/\w.cell? ⟨X,0,none⟩=some (.string x.1)/\w.cell? ⟨X,1,none⟩=some (.int .i64 x.2.1)/\w.cell? ⟨X,2,none⟩=some (.int .i64 x.2.2.1)/\w.cell? ⟨X,3,none⟩=some (.int .i64 x.2.2.2)
theorem ov {D X:Nat}{v:Value}{x:eA}{w w':World}(h:yK D X v x w)(hb:Bw w w'):yK D X v x w' :=
 ⟨cC h.1 hb,cC h.2.1 hb,cC h.2.2.1 hb,cC h.2.2.2.1 hb,cC h.2.2.2.2 hb⟩
theorem fD {D X:Nat}{v:Value}{x:eA}{w:World}(h:yK D X v x w)(o):yK D X v x (w.alloc o):=ov h (qG _ _)
theorem kM {D X:Nat}{v:Value}{x:eA}{w:World}(h:yK D X v x w):yK D X v x w.drew:=h
theorem Ab (w)(v)(next no gen:Int):Bw w (((w.alloc (BD v next)).alloc (oS no gen)).alloc q8)/\w.1.size+2<(((w.alloc (BD v next)).alloc (oS no gen)).alloc q8).1.size /\
  (((w.alloc (BD v next)).alloc (oS no gen)).alloc q8).cell? ⟨w.1.size,0,none⟩=some v/\(((w.alloc (BD v next)).alloc (oS no gen)).alloc q8).cell? ⟨w.1.size,1,none⟩=some (.int .i64 next) /\
  (((w.alloc (BD v next)).alloc (oS no gen)).alloc q8).cell? ⟨w.1.size+1,0,none⟩=some (.int .i64 no)/\(((w.alloc (BD v next)).alloc (oS no gen)).alloc q8).cell? ⟨w.1.size+1,1,none⟩=some (.int .i64 gen) /\
  (((w.alloc (BD v next)).alloc (oS no gen)).alloc q8).1[w.heap.size+2]?=some q8:=by
 obtain⟨b,c,d,f⟩:=wI w v next no gen;refine⟨((qG _ _).alloc qs _).alloc qt _,qs,(dh qt _ _).trans b,(dh qt _ _).trans c,(dh qs _ _).trans d,(dh qs _ _).trans f,?_⟩;have a:=MD ((w.alloc (BD v next)).alloc (oS no gen)) q8
 rwa [show ((w.alloc (BD v next)).alloc (oS no gen)).1.size=w.1.size+2 by simp]at a
theorem vC {D X:Nat}{v:Value}{x:eA}{w:World}(h:yK D X v x w){p:Addr}(hD:D≠p.block)(hX:X≠p.block)(u):yK D X v x (w.setCell p u) :=
 ⟨(dJ (MM _ _ _ _ hD)).trans h.1,(dJ (MM _ _ _ _ hX)).trans h.2.1,(dJ (MM _ _ _ _ hX)).trans h.2.2.1,(dJ (MM _ _ _ _ hX)).trans h.2.2.2.1,(dJ (MM _ _ _ _ hX)).trans h.2.2.2.2⟩
theorem At.zF {α:Type}{E:fY α}{S:Nat->Prop}{w:World}{v:Value}{l:List α}(h:At E S w v l){p:Addr}(hp:¬ S p.block)(u):At E S (w.setCell p u) v l :=
 h.gJ (by simp[World.setCell]) λb a _=>⟨MM _ _ _ _ (λe=>hp (e ▸ a)),a⟩
theorem at_one {w:World}{B:Nat}{x:eA}(h:w.1[B]?=some (BE x)):ey EE w (.slice (some ⟨B,0,none⟩) 1 1) [x]:=by
 refine .inr ⟨B,0,1,rfl,trivial,(qL h),qs,qs,qd,λj u a=>?_⟩;simp only[World.cell?,h,Nat.zero_add];simpa [fY.flat,EE]using a
theorem BN (w1:World)(v:Value)(l:List eA)(x:eA)(hv:ey EE w1 v l)(hl:l.length+1<=2199023255552) :
  Calls Tryz.prog 217 #[.slice (some ⟨w1.1.size+1+1,0,none⟩) 2 2] (((w1.alloc (BE x)).alloc (BE x)).alloc (.cells #[v,.slice (some ⟨w1.1.size+1,0,none⟩) 1 1] 60)).drew
   λe w'=>∃ u,e=.returned u/\Row EE w' (w1.1.size+1+1+1) 116 u (l++[x])/\Below (((w1.alloc (BE x)).alloc (BE x)).alloc (.cells #[v,.slice (some ⟨w1.1.size+1,0,none⟩) 1 1] 60)).drew.1.size (((w1.alloc (BE x)).alloc (BE x)).alloc (.cells #[v,.slice (some ⟨w1.heap.size+1,0,none⟩) 1 1] 60)).drew w':=by
 have a:=MD ((w1.alloc (BE x)).alloc (BE x)) (.cells #[v,.slice (some ⟨w1.1.size+1,0,none⟩) 1 1] 60);have f:=MD (w1.alloc (BE x)) (BE x);have h:(w1.alloc (BE x)).heap.size=w1.heap.size+1:=by simp
 have g:((w1.alloc (BE x)).alloc (BE x)).heap.size=w1.heap.size+1+1:=by simp
 rw[h]at f;rw[g]at a;have b:Bw w1 (((w1.alloc (BE x)).alloc (BE x)).alloc (.cells #[v,.slice (some ⟨w1.1.size+1,0,none⟩) 1 1] 60)):=((qG _ _).alloc (by simp) _).alloc (by simp;omega) _;have c:=(ML ((w1.alloc (BE x)).alloc (BE x)) (.cells #[v,.slice (some ⟨w1.1.size+1,0,none⟩) 1 1] 60) (w1.1.size+1) (by rw[g];omega)).trans f;have i:(((w1.alloc (BE x)).alloc (BE x)).alloc (.cells #[v,.slice (some ⟨w1.1.size+1,0,none⟩) 1 1] 60)).1.size=w1.1.size+1+1+1:=qs
 have d:=hv.up b;have j:=at_one c;generalize ((w1.alloc (BE x)).alloc (BE x)).alloc (.cells #[v,.slice (some ⟨w1.1.size+1,0,none⟩) 1 1] 60)=w3 at *;have k:=uu (w1.1.size+1+1) v _ l [x] w3.drew (by show _<w3.1.size;omega) (by simp only[World.cell?];rw[show w3.drew.1[w1.1.size+1+1]?=w3.1[w1.1.size+1+1]? from rfl,a];rfl) (by simp only[World.cell?];rw[show w3.drew.1[w1.1.size+1+1]?=w3.1[w1.1.size+1+1]? from rfl,a];rfl) d j (by simpa using hl);refine k.mono ?_;rintro e o ⟨u,rfl,m,n⟩;refine⟨u,rfl,?_,n⟩;rw[<-i];exact m
theorem gr (v)(l)(next)(s)(no gen)(w)(hv:ey EE w v l)(hs:∀ x∈l,x.1.size<=maxLen)(hn:s.size<=maxLen) :
  Calls Tryz.prog 206 #[VD v next,.string s,LR no gen] w λe w'=>∃ u,e=.returned (.tuple #[VD u (if Fo.eM l next s no gen=0 then next+1 else 0),.int .i64 (Fo.eM l next s no gen)]) /\
   At EE (λb=>w.1.size<=b) w' u (if Fo.eM l next s no gen=0 then l++[(s,next+1,no,gen)] else [])/\Bw w w':=by
 have B:=hv;obtain⟨q,f,rfl,hm,-⟩:=B.open;clear B;unfold maxLen at hm;obtain⟨m,r⟩:=qE l.length;rw[r]at hm hv |-;have L:Hid _:=r;clear r;obtain⟨v,t⟩:=qF (Value.slice q m f);rw[<-t]at hv |-;obtain⟨y,E,G,H,I,J,U⟩:=Ab w v next no gen;obtain⟨W,F⟩:=qF (((w.alloc (BD v next)).alloc (oS no gen)).alloc q8);rw[<-F]at y E G H I J U;have o:Hid _:=y;have C:=hH U;have M:=hH<|hv.up o;have Z:=hH hs;have D:=hH hn;clear hv hs hn y U;obtain⟨K,n⟩:=qE (Fo.eM l next s no gen);have HE:=hH n;rw[n]
 by_cases hz:K=0
 ·have N:Hid (Fo.fE l next/\next<1099511627776):=by
   have O:=Fo.add_zero (n.trans hz);have h1:=O.1.1.2;exact⟨O.1,by have:=O.2.2.2.2;omega⟩
  obtain⟨ac,ad⟩:0<=next/\next<1099511627776:=⟨N.out.1.1.1,N.out.2⟩;subst hz;subst t;rw[MC rfl,MC rfl];clear n;go_enter Tryz.func206,Tryz.ntmps206;go_wp2_with fail;rw[<-F];refine (oP _ l next s no gen _ M Z D).mono ?_;rintro e a ⟨rfl,d⟩;rw[HE.out];have p:=qJ o d;have g:=qK d C;have e0:=dG G d qo;have e1:=dG H d qo;have e2:=dG I d qo;have e3:=dG J d qo;have P:=hH<|M.out.up d;have aa:=d.size;clear d F G H I J;have c:Hid (yK w.1.size a.1.size (.slice q m f) (s,next+1,no,gen) (a.alloc (BE (s,next+1,no,gen)))):=by
   have hh:=MD a (BE (s,next+1,no,gen));refine⟨(dh qo _ _).trans e0,?_,?_,?_,?_⟩ <;> simp only[World.cell?,hh] <;> rfl
  have Q:Hid (l.length<=1099511627776):=by
   have:=Fo.ew N.out.1;show l.length<=1099511627776;omega
  have HZ:Hid (∀ z,Below (((a.alloc (BE (s,next+1,no,gen))).alloc (BE (s,next+1,no,gen))).alloc (.cells #[.slice q m f,.slice (some ⟨a.1.size+1,0,none⟩) 1 1] 60)).drew.1.size (((a.alloc (BE (s,next+1,no,gen))).alloc (BE (s,next+1,no,gen))).alloc (.cells #[.slice q m f,.slice (some ⟨a.1.size+1,0,none⟩) 1 1] 60)).drew z->z.1[w.1.size+2]?=some q8):=λz d=>by
   have R:=(qL g);rw[d.block _ (by show _<Array.size _;simp;omega)];exact (ML _ _ _ qt).trans ((ML _ _ _ qt).trans ((ML _ _ _ R).trans g))
  have i:w.1.size≠w.1.size+2:=qo
  have j:a.1.size≠w.1.size+2:=qo
  go_wp2_with fail
  go_region_held3 (λw'=>w'.cell? ⟨w.1.size,0,none⟩=some (.slice q m f)/\w'.cell? ⟨a.1.size,0,none⟩=some (.string s)/\w'.cell? ⟨a.1.size,1,none⟩=some (.int .i64 (next+1))/\w'.cell? ⟨a.1.size,2,none⟩=some (.int .i64 no)/\w'.cell? ⟨a.1.size,3,none⟩=some (.int .i64 gen)) (first | exact c | exact kM c | exact kM (fD c _) | exact kM (fD (fD c _) _) | exact fD c _ | exact fD (fD c _) _ | exact ov (kM (fD (fD c _) _)) qa | exact vC (ov (kM (fD (fD c _) _)) qa) i j _ | exact vC (vC (ov (kM (fD (fD c _) _)) qa) i j _) i j _) (first
   | (go_at_call 217;refine (BN a _ l (s,next+1,no,gen) P.out (by have:=L.out;have:=Q.out;omega)).mono ?_;rintro e z ⟨u,rfl,V,A⟩;obtain⟨X,Y,rfl⟩:=V.slice;obtain⟨⟨z0,z1⟩,zf⟩:=xH (HZ.out z A)))
  have k:Hid (At EE (λb=>a.1.size<=b) z (.slice X (l.length+1) Y) (l++[(s,next+1,no,gen)])/\Bw w z/\w.1.size+2<a.1.size):=by
   have R:=(qL g.out);have h:=V.at.imp (T:=λb=>a.1.size<=b) (λb d _=>by omega);rw[MW,O2]at h;have h3:Bw w (((a.alloc (BE (s,next+1,no,gen))).alloc (BE (s,next+1,no,gen))).alloc (.cells #[.slice q m f,.slice (some ⟨a.1.size+1,0,none⟩) 1 1] 60)):=((p.out.alloc (by omega) _).alloc (by simp;omega) _).alloc (by simp;omega) _;exact⟨h,h3.trans ((dH A).mono h3.size),R⟩
  clear V A e0 e1 e2 e3;go_wp2
  refine MK (v:=.tuple #[VD (.slice X (l.length+1) Y) (next+1),.int .i64 0]) ?_ rfl ⟨.slice X (l.length+1) Y,rfl,?_,?_⟩
  ·rw[Nn rfl]
   go_simp
  ·have hS:=k.out.2.2;refine At.imp (S:=λb=>a.1.size<=b) ?_ (λb d _=>by omega)
   repeat (refine At.zF ?_ qt _)
   exact k.out.1
  ·repeat (refine MP ?_ qt _)
   exact k.out.2.1
 ·rw[ME hz,ME hz];have ab:=MQ.2 hz;subst t;clear n hz;go_enter Tryz.func206,Tryz.ntmps206;go_wp2_with fail;rw[<-F];refine (oP _ l next s no gen _ M Z D).mono ?_;rintro e a ⟨rfl,d⟩;rw[HE.out];have p:=qJ o d;have g:=qK d C;obtain⟨⟨z0,z1⟩,zf⟩:=xH g;clear d F G H I J;go_wp2
  refine MK (v:=.tuple #[VD (.slice none 0 0) 0,.int .i64 K]) ?_ rfl ⟨.slice none 0 0,rfl,At.nil,?_⟩
  ·rw[Nn rfl]
   go_simp
  ·repeat (refine MP ?_ qt _)
   exact p
abbrev JQ (D:Nat) (v:Value) (n:Int) (w:World):Prop:=w.cell? ⟨D,0,none⟩=some v/\w.cell? ⟨D,1,none⟩=some (.int .i64 n)
theorem tu {D:Nat}{v:Value}{n:Int}{w w':World}(h:JQ D v n w)(hb:Bw w w'):JQ D v n w':=⟨cC h.1 hb,cC h.2 hb⟩
theorem pV {D:Nat}{v:Value}{n:Int}{w:World}(h:JQ D v n w)(o):JQ D v n (w.alloc o):=tu h (qG _ _)
theorem tI {D:Nat}{v:Value}{n:Int}{w:World}(h:JQ D v n w):JQ D v n w.drew:=h
theorem FF {D:Nat}{v:Value}{n:Int}{w:World}(h:JQ D v n w){p:Addr}(hD:D≠p.block)(u):JQ D v n (w.setCell p u) :=
 ⟨(dJ (MM _ _ _ _ hD)).trans h.1,(dJ (MM _ _ _ _ hD)).trans h.2⟩
theorem At.cut {α:Type}{E:fY α}{S:Nat->Prop}{w:World}{b off m cap:Nat}{l:List α}(h:At E S w (.slice (some ⟨b,off,none⟩) m cap) l){lo hi:Nat}(h1:lo<=hi)(h2:hi<=m):At E S w (sliced (some ⟨b,off,none⟩) lo hi cap E.sz) ((l.take hi).drop lo):=by
 by_cases he:hi=lo
 ·have n:(l.take hi).drop lo=[]:=by
   apply MX
   simp;omega
  unfold sliced;rw[n,show hi-lo=0 by omega];exact .inl ⟨_,_,rfl,rfl⟩
 ·rcases h with⟨s,c,d,rfl⟩ | ⟨t,i,v,d,p,q,x,y,z,r⟩
  ·simp only[Value.slice.injEq]at d;omega
  ·simp only[Value.slice.injEq,Option.some.injEq,Addr.mk.injEq,and_true]at d;obtain⟨⟨rfl,rfl⟩,rfl,rfl⟩:=d;have a:((l.take hi).drop lo).length=hi-lo:=qt
   refine .inr ⟨b,off+lo*E.sz,cap-lo,?_,p,q,qo,qo,qo,λj u k=>?_⟩
   ·rw[a];unfold sliced;rw[ME qo];simp[WideShapes.add_plain]
   ·have e:l=l.take lo++((l.take hi).drop lo++l.drop hi):=by
     have o:l.take lo=(l.take hi).take lo:=by rw[List.take_take,OB h1]
     rw[<-Nq,o,Nj,Nj]
    have f:=(qM k);have g:(E.flat (l.take lo)).length=lo*E.sz:=by rw[E.eh,M5,OB qo]
    have:=r (lo*E.sz+j) u (by
     rw[e,E.fo,E.fo,O9 qo,g,show lo*E.sz+j-lo*E.sz=j by omega,Oq f];exact k)
    rwa [<-NC]at this
theorem mi (w)(a)(m cap k)(hk:k<=cap):(Instr.slice 60 (.slice a m cap) none (some (.int .i64 (k:Int))) none).run Tryz.prog w=.ok (sliced a 0 k cap EE.sz) w:=by
 rw[run_slice_h (P:=Tryz.prog) w 60 a m cap Tryz.underlying60 .i64 (k:Int) qo qo];rfl
theorem kF (w:World)(a:Option Addr)(m cap k:Nat) (hk:k+1<=m):(Instr.slice 60 (.slice a m cap) (some (.int .i64 ((k:Int)+1))) none none).run Tryz.prog w=.ok (sliced a (k+1) m cap EE.sz) w:=by
 rw[run_slice_l (P:=Tryz.prog) w 60 a m cap Tryz.underlying60 .i64 ((k:Int)+1) (by omega) (by omega),show ((k:Int)+1).toNat=k+1 by omega];rfl
theorem Cm (w1)(v1 v2:Value)(l1 l2:List eA)(h1:ey EE w1 v1 l1)(h2:ey EE w1 v2 l2)(hl:l1.length+l2.length<=2199023255552) :
  Calls Tryz.prog 217 #[.slice (some ⟨w1.1.size,0,none⟩) 2 2] (w1.alloc (.cells #[v1,v2] 60)).drew
   λe w'=>∃ u,e=.returned u/\Row EE w' (w1.1.size+1) 116 u (l1++l2)/\Below (w1.alloc (.cells #[v1,v2] 60)).drew.1.size (w1.alloc (.cells #[v1,v2] 60)).drew w':=by
 have b:=MD w1 (.cells #[v1,v2] 60);have c:(w1.alloc (.cells #[v1,v2] 60)).1.size=w1.1.size+1:=by simp
 have a:Bw w1 (w1.alloc (.cells #[v1,v2] 60)):=qG _ _;have d:=h1.up a;have f:=h2.up a;generalize w1.alloc (.cells #[v1,v2] 60)=w3 at *;have g:=uu w1.1.size v1 v2 l1 l2 w3.drew (by show _<w3.1.size;omega) (by simp only[World.cell?];rw[show w3.drew.1[w1.1.size]?=w3.1[w1.1.size]? from rfl,b];rfl) (by simp only[World.cell?];rw[show w3.drew.1[w1.1.size]?=w3.1[w1.1.size]? from rfl,b];rfl) d f hl;refine g.mono ?_;rintro e i ⟨u,rfl,h,a⟩;refine⟨u,rfl,?_,a⟩;rw[<-c];exact h
theorem Row.slice3 {α:Type}{E:fY α}{w:World}{B:Nat}{e:TypeId}{v:Value}{ls:List α}(h:Row E w B e v ls):∃ p n c,v=.slice p n c:=by
 obtain⟨p,c,h⟩:=h.slice;exact⟨p,_,c,h⟩
theorem At.Lk {α:Type}{E:fY α}{S:Nat->Prop}{w:World}{a:Option Addr}{m cap:Nat}{l:List α}(h:At E S w (.slice a m cap) l)(h0:0<m):m<=cap/\cap<=maxLen:=by
 rcases h with⟨f,c,b,rfl⟩ | ⟨g,d,i,b,j,k,n,o,p,q⟩
 ·simp only[Value.slice.injEq]at b;omega
 ·simp only[Value.slice.injEq]at b;omega
theorem A3 (v)(l)(next)(s)(w)(hv:ey EE w v l)(hs:∀ x∈l,x.1.size<=maxLen)(hn:s.size<=maxLen) :
  Calls Tryz.prog 209 #[VD v next,.string s] w λe w'=>∃ u,e=.returned (.tuple #[VD u (if Fo.cM l next s=0 then next else 0),.int .i64 (Fo.cM l next s)]) /\
   At EE (λb=>w.1.size<=b) w' u (if Fo.cM l next s=0 then l.eraseIdx (Fo.gy l next s).toNat else [])/\Bw w w':=by
 have M:=hv;obtain⟨ao,a,rfl,hm,hx⟩:=M.open;clear M;unfold maxLen at hm;obtain⟨m,F⟩:=qE l.length;rw[F]at hm hv |-;have p:=hH F;clear F;obtain⟨v,t⟩:=qF (Value.slice ao m a);rw[<-t]at hv |-;obtain⟨W,C⟩:=qF ((w.alloc (BD v next)).alloc q8);have D:=hH<|show Bw w W by rw[C];exact (qG _ _).alloc qs _
 have N:Hid (W.1[w.1.size+1]?=some q8):=by
  have:=MD (w.alloc (BD v next)) q8;rw[<-C]at this
  rwa [show (w.alloc (BD v next)).1.size=w.1.size+1 by simp]at this
 have ab:w.1.size+1<W.1.size:=by rw[C];simp
 obtain⟨a0,a1⟩:W.cell? ⟨w.1.size,0,none⟩=some v/\W.cell? ⟨w.1.size,1,none⟩=some (.int .i64 next):=by
  have:=jL w v next;rw[C];exact⟨(dh qs _ _).trans this.1,(dh qs _ _).trans this.2⟩
 have HV:=hH<|hv.up D;have HS:=hH hs;have O:=hH hn;have P:Hid (v=.slice ao m a/\ey EE w v l):=⟨t,hv⟩;clear hv hs hn;rcases Fo.mx l next s with⟨k,x,V,X,G,-,-,H,-⟩ | ⟨X,V⟩
 ·have Q:=hH V;have HP:=hH X;have hk:=(qM G);rw[p.out]at hk;obtain⟨y,d,rfl,-,hB,-⟩:=hx k x G;have z:=(show At EE (λ_=>True) w (.slice (some ⟨y,d,none⟩) m a) l from by have:=P.out;rw[<-this.1];exact this.2).Lk (by omega);unfold maxLen at z;have ac:Hid (l.length<=1099511627776):=by
   have:=Fo.ew H;have:=H.1.2;show l.length<=1099511627776;omega
  rw[Q.out,HP.out,MC rfl,MC rfl];obtain⟨Y,Z,r⟩:∃ q c,sliced (some ⟨y,d,none⟩) 0 k a EE.sz=.slice q k c:=⟨_,_,rfl⟩;obtain⟨q2,c2,I⟩:∃ q c,sliced (some ⟨y,d,none⟩) (k+1) m a EE.sz=.slice q (m-(k+1)) c:=⟨_,_,rfl⟩;have R:∀ w',(Instr.slice 60 (.slice (some ⟨y,d,none⟩) m a) none (some (.int .i64 (k:Int))) none).run Tryz.prog w'=.ok (.slice Y k Z) w':=λw'=>by rw[mi w' _ m a k (by omega),r]
  have A:∀ w',(Instr.slice 60 (.slice (some ⟨y,d,none⟩) m a) (some (.int .i64 ((k:Int)+1))) none none).run Tryz.prog w'=.ok (.slice q2 (m-(k+1)) c2) w':=λw'=>by rw[kF w' _ m a k qo,I]
  have i:Hid (∀ w',ey EE w' (.slice (some ⟨y,d,none⟩) m a) l->ey EE w' (.slice Y k Z) (l.take k)/\ey EE w' (.slice q2 (m-(k+1)) c2) (l.drop (k+1))):=λw' h=>by
   have g1:=h.cut (lo:=0) (hi:=k) (MV _) qo;have g2:=h.cut (lo:=k+1) (hi:=m) qo qn;rw[r]at g1;rw[I,<-p.out,Ns]at g2;rw[<-p.out];exact⟨by simpa using g1,g2⟩
  obtain⟨n2,aa⟩:=qE (m-(k+1));rw[aa]at A i;have ad:l.length-(k+1)+k<=l.length:=by have:=p.out;omega
  have af:=hH<|show (l.take k).length+(l.drop (k+1)).length<=2199023255552 by
   have:=ac.out;simp only[List.length_take,List.length_drop];omega
  have k4:IntKind.i64.wrap ((k:Int)+1)=(k:Int)+1:=by rw[IntKind.wrap_i64];omega
  clear r I aa z ad;subst t;clear V X hx G H;go_enter Tryz.func209,Tryz.ntmps209;go_wp2_with fail;rw[<-C];refine (fV _ l next s _ HV HS O).mono ?_;rintro e o ⟨rfl,f⟩;rw[Q.out,HP.out];have E:=qJ D f;have j:=qK f N;have g:=hH<|tu ⟨a0,a1⟩ f;have U:=hH<|HV.out.up f;have r:=f.size;clear f C a0 a1;have HZ:Hid (∀ J,Below (o.alloc (.cells #[.slice Y k Z,.slice q2 n2 c2] 60)).drew.1.size (o.alloc (.cells #[.slice Y k Z,.slice q2 n2 c2] 60)).drew J->J.1[w.1.size+1]?=some q8):=λJ f=>by
   have hl:=(qL j);rw[f.block _ (by show _<Array.size _;simp;omega)];exact (ML _ _ _ hl).trans j
  have B:w.1.size≠w.1.size+1:=qo
  go_wp2_with fail
  go_region_held3 (λw'=>w'.cell? ⟨w.1.size,0,none⟩=some (.slice (some ⟨y,d,none⟩) m a)/\w'.cell? ⟨w.1.size,1,none⟩=some (.int .i64 next)) (first | exact g | exact tI g | exact tI (pV g _) | exact pV g _ | exact tu (tI (pV g _)) qa | exact FF (FF (tu (tI (pV g _)) qa) B _) B _) (first
   | (go_at_call 217;refine (Cm o _ _ _ _ (i _ U).1 (i _ U).2 af).mono ?_;rintro e J ⟨u,rfl,H,K⟩;obtain⟨pu,nu,cu,rfl⟩:=H.slice3;obtain⟨⟨z0,z1⟩,zf⟩:=xH (HZ.out J K)))
  have n:Hid (At EE (λb=>o.1.size<=b) J (.slice pu nu cu) (l.eraseIdx k)/\Bw w J/\w.1.size+1<o.1.size):=by
   have hl:=(qL j.out);have h:=H.at.imp (T:=λb=>o.1.size<=b) (λb f _=>by omega);rw[<-List.eraseIdx_eq_take_drop_succ]at h;have h3:Bw w (o.alloc (.cells #[.slice Y k Z,.slice q2 n2 c2] 60)):=E.out.alloc (by omega) _;exact⟨h,h3.trans ((dH K).mono h3.size),hl⟩
  clear H K R A;go_wp2
  refine MK (v:=.tuple #[VD (.slice pu nu cu) next,.int .i64 0]) ?_ rfl ⟨.slice pu nu cu,rfl,?_,?_⟩
  ·rw[Nn rfl]
   go_simp
  ·have hS:=n.out.2.2;rw[show ((k:Int)).toNat=k from by omega];refine At.imp (S:=λb=>o.1.size<=b) ?_ (λb f _=>by omega)
   repeat (refine At.zF ?_ qt _)
   exact n.out.1
  ·repeat (refine MP ?_ qs _)
   exact n.out.2.1
 ·obtain⟨fe,L⟩:=qE (Fo.cM l next s);have Q:Hid _:=L;have HP:Hid _:=X;rw[L]at V;have hz:fe≠0:=qo
  rw[Q.out,ME hz,ME hz];have ag:=MQ.2 hz;subst t;clear L hz V hx X;go_enter Tryz.func209,Tryz.ntmps209;go_wp2_with fail;rw[<-C];refine (fV _ l next s _ HV HS O).mono ?_;rintro e o ⟨rfl,f⟩;rw[Q.out,HP.out];have E:=qJ D f;have j:=qK f N;obtain⟨⟨z0,z1⟩,zf⟩:=xH j;clear f C a0 a1;go_wp2
  refine MK (v:=.tuple #[VD (.slice none 0 0) 0,.int .i64 fe]) ?_ rfl ⟨.slice none 0 0,rfl,At.nil,?_⟩
  ·rw[Nn rfl]
   go_simp
  ·repeat (refine MP ?_ qs _)
   exact E
end
section
open ChangeShapes WideShapes ChangeAt RowKit Deep It
theorem lu {S : Nat → Prop}(v )(L )(a b )(w )(hv : cD S w v L) :
  Calls Tryz.prog 155 #[v,.agg #[.int .i64 a,.int .i64 b]] w λe w'=>∃ x:Rw,e=.returned (.tuple #[VI x,.int .i64 (cM (pl L) a b)])/\x.i=cY (pl L) a b/\Good (λb=>w.1.size<=b) w' x/\Bw w w':=by
 obtain⟨W,r⟩:=qF ((w.alloc (BH a b)).alloc BZ);have h:=hH<|show Bw w W by rw[r];exact (qG _ _).alloc qs _
 have j:Hid (W.1[w.1.size]?=some (BH a b)/\W.1[w.1.size+1]?=some BZ):=by
  rw[r];refine⟨(ML _ _ _ qs).trans (MD _ _),?_⟩;have:=MD (w.alloc (BH a b)) BZ
  rwa [show (w.alloc (BH a b)).1.size=w.1.size+1 by simp]at this
 have ab:w.1.size+1<W.1.size:=by rw[r];simp
 have A:=hH<|hv.up h;obtain⟨⟨X,Y⟩,_⟩:=cU j.out.1;obtain⟨ao,R,rfl,_,_⟩:=hv.open;clear hv;obtain⟨I,d⟩:=qE (cM (pl L) a b);have q:=hH d;rw[d]
 by_cases hz:I=0
 ·rw[hz]at d q
  subst hz;obtain⟨hr,Z⟩:=It.jS d;obtain⟨k,x,rfl,u,hg,hk,T⟩:=It.named Z;have J:=hH<|show cY (pl L) k b=x.i by
   unfold cY;rw[MC d,show ((k:Int)).toNat=k from by omega,It.nP u];rfl
  obtain⟨m,hm⟩:=qE L.length;have ac:(k:Int)<(m:Int):=qo
  rw[hm]at A |-;have K:=hH u;clear d hr Z u hg hk T hm;go_enter Tryz.func155,Tryz.ntmps155;go_wp2_with fail;rw[<-r];refine (dU _ L k b _ A).mono ?_;rintro e f ⟨rfl,c⟩;rw[q.out];have n:=qJ h c;have o:Hid (f.1[w.1.size]?=some (BH k b)/\f.1[w.1.size+1]?=some BZ):=⟨(c.block _ qo).trans j.out.1,(c.block _ qo).trans j.out.2⟩;have M:=hH<|A.out.up c;have p:w.1.size+1<f.1.size:=by have:=c.size;omega
  obtain⟨⟨e0,e1⟩,_⟩:=cU o.out.1;obtain⟨af,aa,C,_,D⟩:=M.out.open;obtain⟨⟨bb,ag,U,hB,hc⟩,E⟩:=D k x K;simp only[Value.slice.injEq]at C;obtain⟨rfl,_,rfl⟩:=C;subst U;obtain⟨c0,c1,c2,c3,c4,c5,c6,c7⟩:=hc;have N:=hH E;clear c D E r X Y A j;go_wp2_with fail;refine (yy x _ N).mono ?_;rintro e V ⟨y,rfl,F,G,z⟩;have O:=qJ n z;have P:=hH<|(z.block _ p).trans o.out.2;have H:Hid (y.i=cY (pl L) k b/\Good (λb=>f.1.size<=b) V y):=⟨F.trans J.symm,G⟩;have Q:=hH p;obtain⟨⟨z0,z1,z2,z3,z4,z5,z6,z7⟩,zf⟩:=dV P;obtain⟨⟨g,kk,l,s,t,rs,es,nx⟩,rp,rn,rc,ep,en,ec⟩:=y;clear F G z e0 e1 c0 c1 c2 c3 c4 c5 c6 c7;go_wp2
  refine MK (v:=.tuple #[.agg #[.int .i64 g,.int .i64 kk,.int .i64 l,.int .i64 s,.int .i64 t,.slice rp rn rc,.slice ep en ec,.int .i64 nx],.int .i64 0]) ?_ rfl ⟨⟨⟨g,kk,l,s,t,rs,es,nx⟩,rp,rn,rc,ep,en,ec⟩,rfl,H.out.1,?_,?_⟩
  ·rw[Nn rfl]
   go_simp
  ·have hS := Q
   refine⟨?_,?_,H.out.2.2.2⟩
   ·refine At.imp (S := λb => f.1.size ≤ b) ?_ (λb B _ => by show w.1.size ≤ b;have B : f.1.size ≤ b := B;omega)
    repeat (refine At.setCell ?_ qt _)
    exact H.out.2.1
   ·refine At.imp (S := λb => f.1.size ≤ b) ?_ (λb B _ => by show w.1.size ≤ b;have B : f.1.size ≤ b := B;omega)
    repeat (refine At.setCell ?_ qt _)
    exact H.out.2.2.1
  ·repeat (refine MP ?_ qs _)
   exact O
 ·have J : Hid (cY (pl L) a b=gU) := by
   show cY (pl L) a b=gU;unfold cY;rw[ME (by rw[d];exact hz)]
  have ad:(I==0)=false:=by simp[hz]
  clear hz d;go_enter Tryz.func155,Tryz.ntmps155;go_wp2_with fail;rw[<-r];refine (dU _ L a b _ A).mono ?_;rintro e f ⟨rfl,c⟩;rw[q.out];have n:=qJ h c;have o:=hH<|(c.block _ qo).trans j.out.2;obtain⟨⟨z0,z1,z2,z3,z4,z5,z6,z7⟩,zf⟩:=dV o;clear c r X Y;go_wp2
  refine MK (v:=.tuple #[.agg #[.int .i64 0,.int .i64 0,.int .i64 0,.int .i64 0,.int .i64 0,.slice none 0 0,.slice none 0 0,.int .i64 0],.int .i64 I]) ?_ rfl ⟨gQ,rfl,J.symm,kB _ _,?_⟩
  ·rw[Nn rfl]
   go_simp
  ·repeat (refine MP ?_ qs _)
   exact n
end
section
open ChangeShapes WideShapes ChangeAt RowKit Deep It
namespace Sp
def eS (L:List cL) (a b:Int):Int:=if cM L a b=0 then (if (cY L a b).kind=2 then 0 else 404) else cM L a b
def fc (L:List cL) (a b:Int):List eA:=if eS L a b=0 then (cY L a b).cE else []
def fy (L:List cL) (a b:Int):Int:=if eS L a b=0 then (cY L a b).next else 0
variable {L:List cL} {a b:Int}
theorem zS {e:Int}(h:cM L a b=e)(he:e≠0):eS L a b=e/\fc L a b=[]/\fy L a b=0:=by
 have:eS L a b=e:=by unfold eS;rw[ME (by rw[h];exact he),h]
 exact⟨this,by unfold fc;rw[ME (by rw[this];exact he)],by unfold fy;rw[ME (by rw[this];exact he)]⟩
theorem AM (h:cM L a b=0)(hk:(cY L a b).kind≠2):eS L a b=404/\fc L a b=[]/\fy L a b=0:=by
 have:eS L a b=404:=by unfold eS;rw[MC h,ME hk]
 exact⟨this,by unfold fc;rw[ME (by rw[this];decide)],by unfold fy;rw[ME (by rw[this];decide)]⟩
theorem Cf (h:cM L a b=0)(hk:(cY L a b).kind=2):eS L a b=0/\fc L a b=(cY L a b).cE/\fy L a b=(cY L a b).next:=by
 have:eS L a b=0:=by unfold eS;rw[MC h,MC hk]
 exact⟨this,by unfold fc;rw[MC this],by unfold fy;rw[MC this]⟩
theorem AR {L:List Rw}(h:m6 L)(a b):∀ e∈(cY (pl L) a b).cE,e.1.size<=maxLen:=by
 unfold cY;split
 ·cases hx:(pl L)[a.toNat]? with
  | none=>intro e c;simp[gU]at c
  | some x =>
   rw[Nh]at hx
   cases hy:L[a.toNat]? with
   | none=>rw[hy]at hx;cases hx
   | some y =>
    rw[hy]at hx;obtain rfl:y.i=x:=by simpa using hx
    exact h y (MG hy)
 ·intro e c;simp[gU]at c
theorem Jq {L:List Rw}(h:m6 L)(a b):∀ e∈fc (pl L) a b,e.1.size<=maxLen:=by
 unfold fc;split
 ·exact AR h a b
 ·intro e c
  cases c
noncomputable def eY (L:List cL) (a b:Int) (s:ByteArray):Int:=if eS L a b=0 then Fo.cM (fc L a b) (fy L a b) s else eS L a b
noncomputable def jD (L:List cL) (a b:Int) (s:ByteArray):Int × Int:=if eS L a b=0 then (Fo.found (fc L a b) (fy L a b) s).2.2 else (0,0)
noncomputable def fH (L:List cL) (a b:Int) (s:ByteArray):Int:=if eY L a b s=0 then 403 else if eY L a b s=402 then 0 else eY L a b s
end Sp
theorem Jo {α:Type}{E:fY α}{B C D:Nat}{w:World}{v:Value}{l:List α}(h:At E (λb=>B<=b) w v l)(hC:C<B)(hD:D<B)(j k)(y z):ey E ((w.setCell ⟨C,j,none⟩ y).setCell ⟨D,k,none⟩ z) v l:=by
 refine At.wide (S:=λb=>B<=b) ?_;refine At.setCell (At.setCell h ?_ _) ?_ _
 ·simp;omega
 ·simp;omega
theorem mD {w:World}{B:Nat}{v:Value}{n:Int}(h:w.1[B]?=some (.cells #[v,.int .i64 n] 155)):(w.cell? ⟨B,0,none⟩=some v/\w.cell? ⟨B,1,none⟩=some (.int .i64 n))/\∀ j,w.frozen? ⟨B,j,none⟩=false:=by
 refine⟨⟨?_,?_⟩,λj=>?_⟩ <;> simp only[World.cell?,World.frozen?,h] <;> rfl
variable {S:Nat->Prop}
theorem p3 (v)(L)(a b)(w)(hv:cD S w v L) :
  Calls Tryz.prog 198 #[v,.agg #[.int .i64 a,.int .i64 b]] w λe w'=>∃ u,e=.returned (.tuple #[VD u (Sp.fy (pl L) a b),.int .i64 (Sp.eS (pl L) a b)])/\ey EE w' u (Sp.fc (pl L) a b)/\Bw w w':=by
 obtain⟨W,r⟩:=qF ((w.alloc (BH a b)).alloc q8);have p:=hH<|show Bw w W by rw[r];exact (qG _ _).alloc qs _
 have h:Hid (W.1[w.1.size]?=some (BH a b)/\W.1[w.1.size+1]?=some q8):=by
  rw[r];refine⟨(ML _ _ _ qs).trans (MD _ _),?_⟩;have:=MD (w.alloc (BH a b)) q8
  rwa [show (w.alloc (BH a b)).1.size=w.1.size+1 by simp]at this
 have ab:w.1.size+1<W.1.size:=by rw[r];simp
 have G:Hid _:=hv.up p;obtain⟨⟨a0,a1⟩,_⟩:=cU h.out.1;obtain⟨ao,af,rfl,_,_⟩:=hv.open;clear hv;obtain⟨N,k⟩:=qE (cM (pl L) a b);have D:=hH k
 by_cases hz:N=0
 ·subst hz
  by_cases hk:(cY (pl L) a b).kind=2
  ·obtain⟨z,A,B⟩:=Sp.Cf k hk;have H:=hH hk;rw[z,A,B];clear z A B hk k;go_enter Tryz.func198,Tryz.ntmps198;go_wp2_with fail;rw[<-r];refine (lu _ L a b _ G).mono ?_;rintro e l ⟨x,rfl,g,m,c⟩;rw[D.out];have I:=hH g;have E:=hH<|show x.i.kind = 2 by rw[g];exact H
   have f:=qJ p c;have j:=hH<|(c.block _ qo).trans h.out.2;have t:w.1.size+1<l.1.size:=by have:=c.size;omega
   obtain⟨⟨O,P,Q,R,T,U,V,X⟩,-⟩:=dV (MD l (jC x));have HE:=hH m.2.1;clear m c r a0 a1 G h g H;go_wp2_with fail;refine (fk x _).mono ?_;rintro e C ⟨rfl,n⟩;rw[E.out];have d:Bw l C:=by rw[n];exact (qG _ _).alloc qs _
   have y:Below (l.alloc (jC x)).1.size (l.alloc (jC x)) C:=by rw[n];exact qG _ _
   obtain⟨r0,r1,r2,r3,r4,r5,r6,r7⟩:eight C l.1.size 0 x:=Ay (b:=l.1.size) (o:=0) ⟨O,P,Q,R,T,U,V,X⟩ y qs;simp only[Nat.zero_add]at r1 r2 r3 r4 r5 r6 r7;have J:=qJ f d;have q:=qK d j;have K:=hH<|HE.out.up d;have M:w.1.size+1<C.1.size:=by have:=d.size;omega
   clear O P Q R T U V X n d y HE j f;go_wp2_with fail;refine (kN x _).mono ?_;rintro e w3 ⟨rfl,s⟩;have F:=qJ J s;have Y:=qK s q;have Z:Hid _:=K.out.up s;obtain⟨⟨z0,z1⟩,zf⟩:=mD Y;clear r0 r1 r2 r3 r4 r5 r6 r7 s K q J;go_wp2
   refine MK (v:=.tuple #[VD (.slice x.ep x.en x.ec) x.i.next,.int .i64 0]) ?_ rfl ⟨_,by rw[<-I.out],?_,?_⟩
   ·rw[Nn rfl]
    go_simp
   ·rw[<-I.out];exact Jo Z qo qo _ _ _ _
   ·repeat (refine MP ?_ qs _)
    exact F
  ·obtain⟨z,A,B⟩:=Sp.AM k hk;have H:Hid _:=hk;rw[z,A,B];clear z A B hk k;go_enter Tryz.func198,Tryz.ntmps198;go_wp2_with fail;rw[<-r];refine (lu _ L a b _ G).mono ?_;rintro e l ⟨x,rfl,g,m,c⟩;rw[D.out];have E:=hH<|show (x.i.kind == 2) = false by rw[g];exact MQ.2 H
   have f:=qJ p c;have j:Hid _:=(c.block _ qo).trans h.out.2;have t:w.1.size+1<l.1.size:=by have:=c.size;omega
   obtain⟨⟨O,P,Q,R,T,U,V,X⟩,-⟩:=dV (MD l (jC x));clear m c r a0 a1 G h g H;go_wp2_with fail;refine (fk x _).mono ?_;rintro e C ⟨rfl,n⟩;rw[E.out];have d:Bw l C:=by rw[n];exact (qG _ _).alloc qs _
   have F:=qJ f d;have q:=qK d j;obtain⟨⟨z0,z1⟩,zf⟩:=mD q;clear O P Q R T U V X n d j f;go_wp2
   refine MK (v:=.tuple #[VD (.slice none 0 0) 0,.int .i64 404]) ?_ rfl ⟨_,rfl,At.nil,?_⟩
   ·rw[Nn rfl]
    go_simp
   ·repeat (refine MP ?_ qs _)
    exact F
 ·obtain⟨z,A,B⟩:=Sp.zS k hz;rw[z,A,B];have ac:(N != 0)=true:=by simpa using hz
  clear z A B k hz;go_enter Tryz.func198,Tryz.ntmps198;go_wp2_with fail;rw[<-r];refine (lu _ L a b _ G).mono ?_;rintro e l ⟨x,rfl,g,m,c⟩;rw[D.out];have f:=qJ p c;have j:Hid _:=(c.block _ qo).trans h.out.2;have t:w.1.size+1<l.1.size:=by have:=c.size;omega
  obtain⟨⟨z0,z1⟩,zf⟩:=mD j;clear m c r a0 a1 G h g;go_wp2
  refine MK (v:=.tuple #[VD (.slice none 0 0) 0,.int .i64 N]) ?_ rfl ⟨_,rfl,At.nil,?_⟩
  ·rw[Nn rfl]
   go_simp
  ·have ad:=f.out.size
   repeat (first | exact f | refine MP ?_ qs _ | refine Nr ?_ qt _)
theorem lY (v)(L)(a b)(s)(w)(hv:cD S w v L)(eE:Sp.m6 L)(hs:s.size<=maxLen) :
  Calls Tryz.prog 176 #[v,.agg #[.int .i64 a,.int .i64 b],.string s] w λe w'=>e=.returned (.tuple #[.agg #[.int .i64 (Sp.jD (pl L) a b s).1,.int .i64 (Sp.jD (pl L) a b s).2],.int .i64 (Sp.eY (pl L) a b s)])/\Bw w w':=by
 obtain⟨W,p⟩:=qF ((w.alloc (BH a b)).alloc (BH 0 0));have m:=hH<|show Bw w W by rw[p];exact (qG _ _).alloc qs _
 have g:Hid (W.1[w.1.size]?=some (BH a b)/\W.1[w.1.size+1]?=some (BH 0 0)):=by
  rw[p];refine⟨(ML _ _ _ qs).trans (MD _ _),?_⟩;have:=MD (w.alloc (BH a b)) (BH 0 0)
  rwa [show (w.alloc (BH a b)).1.size=w.1.size+1 by simp]at this
 have U:w.1.size+1<W.1.size:=by rw[p];simp
 have E:Hid _:=hv.up m.out;obtain⟨⟨Q,R⟩,_⟩:=cU g.out.1;obtain⟨ao,X,rfl,_,_⟩:=hv.open;have y:Hid _:=Sp.Jq eE a b;have G:Hid _:=hs;clear hv eE hs;obtain⟨F,d⟩:=qE (Sp.eS (pl L) a b);have z:Hid _:=d
 by_cases hz:F=0
 ·subst hz;obtain⟨q,i⟩:=qE (Sp.fc (pl L) a b);obtain⟨j,f⟩:=qE (Sp.fy (pl L) a b);have A:Hid (Sp.fc (pl L) a b=q/\Sp.fy (pl L) a b=j):=⟨i,f⟩;rw[i]at y;obtain⟨D,r⟩:=qE (Fo.found q j s);obtain⟨J,t⟩:=qE (Fo.cM q j s);have N:Hid (Fo.found q j s=D/\Fo.cM q j s=J):=⟨r,t⟩;rw[show Sp.eY (pl L) a b s=J by unfold Sp.eY;rw[MC d,i,f,t],show Sp.jD (pl L) a b s=D.2.2 by unfold Sp.jD;rw[MC d,i,f,r]];clear i f r t d;go_enter Tryz.func176,Tryz.ntmps176;go_wp2_with fail;rw[<-p];refine (p3 _ L a b _ E.out).mono ?_;rintro e x ⟨u,rfl,l,c⟩;rw[z.out,A.out.2];rw[A.out.1]at l;obtain⟨K,M,rfl,_,_⟩:=l.open;generalize q.length=un at l |-;have h:=qJ m c;have n:Hid _:=(c.block _ (by omega)).trans g.out.2;have B:w.1.size+1<x.1.size:=by have:=c.size;omega
  have o:Hid (Bw x (x.alloc (BD (.slice K un M) j))):=qG _ _;have O:Hid _:=l.up o;obtain⟨Y,Z⟩:=jL x (.slice K un M) j;clear c p Q R E g l;go_wp2_with fail;refine (Dw _ q j s _ O y G).mono ?_;rintro e T ⟨rfl,k⟩;rw[N.out.1,N.out.2];have C:Hid _:=(h.trans (o.mono h.size)).trans (k.mono qt);have H:Hid _:=(k.block _ qt).trans ((o.block _ qo).trans n);have P:w.1.size+1<T.1.size:=by have:=k.size;simp at this;omega
  obtain⟨⟨z0,z1⟩,zf⟩:=cU H;obtain⟨⟨y0,y1,y2,y3⟩,-⟩:=qi (MD T (BE D));clear k Y Z O;go_wp2
  refine MK (v:=.tuple #[.agg #[.int .i64 D.2.2.1,.int .i64 D.2.2.2],.int .i64 J]) ?_ rfl ⟨rfl,?_⟩
  ·rw[Nn rfl]
   go_simp
  ·have I:=C.out.size
   repeat (first | exact C | refine MP ?_ qs _ | refine Nr ?_ qt _)
 ·rw[show Sp.eY (pl L) a b s=F by unfold Sp.eY;rw[ME (by rw[d];exact hz),d],show Sp.jD (pl L) a b s=(0,0) by unfold Sp.jD;rw[ME (by rw[d];exact hz)]];have V:(F != 0)=true:=by simpa using hz
  clear hz d;go_enter Tryz.func176,Tryz.ntmps176;go_wp2_with fail;rw[<-p];refine (p3 _ L a b _ E).mono ?_;rintro e x ⟨u,rfl,l,c⟩;rw[z.out];obtain⟨j,f⟩:=qE (Sp.fy (pl L) a b);rw[f];obtain⟨K,M,rfl,_,_⟩:=l.open;generalize (Sp.fc (pl L) a b).length=un;have h:=qJ m c;have n:Hid _:=(c.block _ qo).trans g.out.2;have B:w.1.size+1<x.1.size:=by have:=c.size;omega
  obtain⟨⟨z0,z1⟩,zf⟩:=cU n;clear c p Q R E g l f;go_wp2
  refine MK (v:=.tuple #[.agg #[.int .i64 0,.int .i64 0],.int .i64 F]) ?_ rfl ⟨rfl,?_⟩
  ·rw[Nn rfl]
   go_simp
  ·have I:=h.out.size
   repeat (first | exact h | refine MP ?_ qs _ | refine Nr ?_ qt _)
end
section
open ChangeShapes WideShapes ChangeAt RowKit Deep
def At.ez (k l s t n st:Int):Int :=
 if At.right k l s t then
  if (n=1\/n = -1)/\(t<=st/\st<=1099511627776) then
   if k=1 then if 64<l+n then 5 else if l+n<0 then 6 else 0
   else 7
  else 1
 else 70
def At.pM (k l s t n st:Int):Value:=if At.ez k l s t n st=0 then VA k (l+n) s st else VA 0 0 0 0
theorem pS (k l s t n st )(w ) : Calls Tryz.prog 218 #[VA k l s t, .int .i64 n, .int .i64 st] w λe w' => e=.returned (.int .i64 (At.ez k l s t n st)) ∧ w'=(w.alloc (BA k l s t)).alloc (BA k l s t) := by
 obtain⟨y,i⟩:=qE (At.ez k l s t n st);have c:Hid _:=i;rw[i];clear i
 by_cases hr:At.right k l s t=true
 ·have b : Hid _ := hr;have d:Hid _:=At.cG.1 hr
  by_cases hn:n=1\/n = -1
  ·by_cases hw:t<=st/\st<=1099511627776
   ·have g:Hid _:=hw
    by_cases hk:k=1
    ·have j:0<=l/\l<=64:=by have:=d.out;unfold At.dN at this;omega
     by_cases h5:64<l+n
     ·have H:=hH<|show y = 5 by rw[<-c.out];unfold At.ez;rw[MC hr,MC ⟨hn,hw⟩,MC hk,MC h5]
      clear hr hw d;subst hk;obtain rfl:n=1:=qo
      all_goals
       go_enter Tryz.func218,Tryz.ntmps218;go_wp2_with fail;refine (dF 1 l s t _ b).mono ?_;rintro e a ⟨rfl,rfl⟩;go_wp2_with fail;refine (di _ _ _ _ g).mono ?_;rintro e a ⟨rfl,rfl⟩;go_wp2;go_ret;rw[H.out];exact⟨rfl,rfl⟩
     ·by_cases h6:l+n<0
      ·have H:=hH<|show y = 6 by rw[<-c.out];unfold At.ez;rw[MC hr,MC ⟨hn,hw⟩,MC hk,ME h5,MC h6]
       clear hr hw d;subst hk;obtain rfl:n = -1:=qo
       all_goals
        go_enter Tryz.func218,Tryz.ntmps218;go_wp2_with fail;refine (dF 1 l s t _ b).mono ?_;rintro e a ⟨rfl,rfl⟩;go_wp2_with fail;refine (di _ _ _ _ g).mono ?_;rintro e a ⟨rfl,rfl⟩;go_wp2;go_ret;rw[H.out];exact⟨rfl,rfl⟩
      ·have H:=hH<|show y = 0 by rw[<-c.out];unfold At.ez;rw[MC hr,MC ⟨hn,hw⟩,MC hk,ME h5,ME h6]
       clear hr hw d;subst hk;rcases hn with rfl | rfl
       all_goals
        go_enter Tryz.func218,Tryz.ntmps218;go_wp2_with fail;refine (dF 1 l s t _ b).mono ?_;rintro e a ⟨rfl,rfl⟩;go_wp2_with fail;refine (di _ _ _ _ g).mono ?_;rintro e a ⟨rfl,rfl⟩;go_wp2;go_ret;rw[H.out];exact⟨rfl,rfl⟩
    ·have H:=hH<|show y = 7 by rw[<-c.out];unfold At.ez;rw[MC hr,MC ⟨hn,hw⟩,ME hk]
     clear hr hw d;rcases hn with rfl | rfl
     all_goals
      go_enter Tryz.func218,Tryz.ntmps218;go_wp2_with fail;refine (dF k l s t _ b).mono ?_;rintro e a ⟨rfl,rfl⟩;go_wp2_with fail;refine (di _ _ _ _ g).mono ?_;rintro e a ⟨rfl,rfl⟩;go_wp2;go_ret;rw[H.out];exact⟨rfl,rfl⟩
   ·have g:Hid _:=hw;have H:=hH<|show y = 1 by
     rw[<-c.out];unfold At.ez;rw[MC hr,ME (λh=>hw h.2)]
    clear hr hw d;rcases hn with rfl | rfl
    all_goals
     go_enter Tryz.func218,Tryz.ntmps218;go_wp2_with fail;refine (dF k l s t _ b).mono ?_;rintro e a ⟨rfl,rfl⟩;go_wp2_with fail;refine (eZ _ _ _ _ g).mono ?_;rintro e a ⟨rfl,rfl⟩;go_wp2;go_ret;rw[H.out];exact⟨rfl,rfl⟩
  ·have H:=hH<|show y = 1 by
    rw[<-c.out];unfold At.ez;rw[MC hr,ME (λh=>hn h.1)]
   have m:(n != 1)=true:=by simpa using λh=>hn (.inl h)
   have o:(n != -1)=true:=by simpa using λh=>hn (.inr h)
   clear hr hn d;go_enter Tryz.func218,Tryz.ntmps218;go_wp2_with fail;refine (dF k l s t _ b).mono ?_;rintro e a ⟨rfl,rfl⟩;go_wp2;go_ret;rw[H.out];exact⟨rfl,rfl⟩
 ·have f:At.right k l s t=false:=by simpa using hr
  have b:Hid _:=f;have H:=hH<|show y = 70 by rw[<-c.out];simp[At.ez,f]
  clear hr f;go_enter Tryz.func218,Tryz.ntmps218;go_wp2_with fail;refine (jQ k l s t _ b).mono ?_;rintro e a ⟨rfl,rfl⟩;go_wp2;go_ret;rw[H.out];exact⟨rfl,rfl⟩
theorem Gl (k l s t n st)(w):Calls Tryz.prog 208 #[VA k l s t,.int .i64 n,.int .i64 st] w λe w'=>e=.returned (.tuple #[At.pM k l s t n st,.int .i64 (At.ez k l s t n st)])/\Bw w w':=by
 by_cases he:At.ez k l s t n st=0
 ·have c : Hid _ := he;have a:Hid (At.pM k l s t n st=VA k (l+n) s st):=MC he
  have d : 0 ≤ l+n ∧ l+n ≤ 64 := by
   unfold At.ez at he;split at he
   ·split at he
    ·split at he
     ·split at he
      ·cases he
      ·split at he
       ·cases he
       ·omega
     ·cases he
    ·cases he
   ·cases he
  obtain⟨g,h⟩:=d;clear he;rw[c.out,a.out];go_enter Tryz.func208,Tryz.ntmps208;go_wp2_with fail;refine (pS k l s t n st _).mono ?_;rintro e i ⟨rfl,rfl⟩;rw[c.out];go_wp2;refine MK (v:=.tuple #[VA k (l+n) s st,.int .i64 0]) (by simp[results,Tryz.results208,go_sem]) rfl ⟨rfl,?_⟩;exact (((qG _ _).alloc qs _).alloc qt _).alloc qt _
 ·have a:Hid (At.pM k l s t n st=VA 0 0 0 0):=ME he
  rw[a.out];obtain⟨y,b⟩:=qE (At.ez k l s t n st);rw[b]at he |-;have f:Hid _:=b;clear b;go_enter Tryz.func208,Tryz.ntmps208;go_wp2_with fail;refine (pS k l s t n st _).mono ?_;rintro e i ⟨rfl,rfl⟩;rw[f.out];go_wp2;refine MK (v:=.tuple #[VA 0 0 0 0,.int .i64 y]) (by simp[results,Tryz.results208,go_sem]) rfl ⟨rfl,?_⟩;exact (((qG _ _).alloc qs _).alloc qt _).alloc qt _
def At.eK (k l s t n st:Int):Int :=
 if At.right k l s t then
  if t<=st/\st<=1099511627776 then
   if k=0 then 7 else if 0<=n/\n<=1048576 then 0 else 408
  else 1
 else 70
def At.kv (k l s t n st:Int):Value:=if At.eK k l s t n st=0 then VA k l n st else VA 0 0 0 0
theorem uV (k l s t n st)(w):Calls Tryz.prog 160 #[VA k l s t,.int .i64 n,.int .i64 st] w λe w'=>e=.returned (.tuple #[At.kv k l s t n st,.int .i64 (At.eK k l s t n st)])/\Bw w w':=by
 have d:Hid (At.kv k l s t n st=if At.eK k l s t n st=0 then VA k l n st else VA 0 0 0 0):=rfl;obtain⟨z,o⟩:=qE (At.kv k l s t n st);obtain⟨y,i⟩:=qE (At.eK k l s t n st);rw[o,i]at d;have g:Hid _:=i;rw[i,o];clear i o
 by_cases hr:At.right k l s t=true
 ·have f:Hid _:=hr
  by_cases hw:t<=st/\st<=1099511627776
  ·have h:Hid _:=hw
   by_cases hk:k=0
   ·have H:=hH<|show y=7 by rw[<-g.out];unfold At.eK;rw[MC hr,MC hw,MC hk]
    have b:Hid (z=VA 0 0 0 0):=by have:=d.out;rw[H.out,ME qd]at this;exact this
    have j:(k==0)=true:=by simp[hk]
    clear hr hw hk;go_enter Tryz.func160,Tryz.ntmps160;go_wp2_with fail;refine (dF k l s t _ f).mono ?_;rintro e a ⟨rfl,rfl⟩;go_wp2_with fail;refine (di _ _ _ _ h).mono ?_;rintro e a ⟨rfl,rfl⟩;go_wp2;refine MK (v:=.tuple #[VA 0 0 0 0,.int .i64 7]) (by simp[results,Tryz.results160,go_sem]) rfl ⟨by rw[H.out,b.out],?_⟩;exact ((qG _ _).alloc qs _).alloc qt _
   ·have j:=MQ.2 hk
    by_cases hn:0<=n/\n<=1048576
    ·have m:Hid _:=hn;have H:=hH<|show y=0 by rw[<-g.out];unfold At.eK;rw[MC hr,MC hw,ME hk,MC hn]
     have b:Hid (z=VA k l n st):=by have:=d.out;rw[H.out,MC rfl]at this;exact this
     clear hr hw hk hn;go_enter Tryz.func160,Tryz.ntmps160;go_wp2_with fail;refine (dF k l s t _ f).mono ?_;rintro e a ⟨rfl,rfl⟩;go_wp2_with fail;refine (di _ _ _ _ h).mono ?_;rintro e a ⟨rfl,rfl⟩;go_wp2_with fail;refine (di _ _ _ _ m).mono ?_;rintro e a ⟨rfl,rfl⟩;go_wp2;refine MK (v:=.tuple #[VA k l n st,.int .i64 0]) (by simp[results,Tryz.results160,go_sem]) rfl ⟨by rw[H.out,b.out],?_⟩;exact ((qG _ _).alloc qs _).alloc qt _
    ·have m:Hid _:=hn;have H:=hH<|show y=408 by rw[<-g.out];unfold At.eK;rw[MC hr,MC hw,ME hk,ME hn]
     have b:Hid (z=VA 0 0 0 0):=by have:=d.out;rw[H.out,ME qd]at this;exact this
     clear hr hw hk hn;go_enter Tryz.func160,Tryz.ntmps160;go_wp2_with fail;refine (dF k l s t _ f).mono ?_;rintro e a ⟨rfl,rfl⟩;go_wp2_with fail;refine (di _ _ _ _ h).mono ?_;rintro e a ⟨rfl,rfl⟩;go_wp2_with fail;refine (eZ _ _ _ _ m).mono ?_;rintro e a ⟨rfl,rfl⟩;go_wp2;refine MK (v:=.tuple #[VA 0 0 0 0,.int .i64 408]) (by simp[results,Tryz.results160,go_sem]) rfl ⟨by rw[H.out,b.out],?_⟩;exact ((qG _ _).alloc qs _).alloc qt _
  ·have h:Hid _:=hw;have H:=hH<|show y=1 by rw[<-g.out];unfold At.eK;rw[MC hr,ME hw]
   have b:Hid (z=VA 0 0 0 0):=by have:=d.out;rw[H.out,ME qd]at this;exact this
   clear hr hw;go_enter Tryz.func160,Tryz.ntmps160;go_wp2_with fail;refine (dF k l s t _ f).mono ?_;rintro e a ⟨rfl,rfl⟩;go_wp2_with fail;refine (eZ _ _ _ _ h).mono ?_;rintro e a ⟨rfl,rfl⟩;go_wp2;refine MK (v:=.tuple #[VA 0 0 0 0,.int .i64 1]) (by simp[results,Tryz.results160,go_sem]) rfl ⟨by rw[H.out,b.out],?_⟩;exact ((qG _ _).alloc qs _).alloc qt _
 ·have c:At.right k l s t=false:=by simpa using hr
  have f:Hid _:=c;have H:=hH<|show y=70 by rw[<-g.out];simp[At.eK,c]
  have b:Hid (z=VA 0 0 0 0):=by have:=d.out;rw[H.out,ME qd]at this;exact this
  clear hr c;go_enter Tryz.func160,Tryz.ntmps160;go_wp2_with fail;refine (jQ k l s t _ f).mono ?_;rintro e a ⟨rfl,rfl⟩;go_wp2;refine MK (v:=.tuple #[VA 0 0 0 0,.int .i64 70]) (by simp[results,Tryz.results160,go_sem]) rfl ⟨by rw[H.out,b.out],?_⟩;exact ((qG _ _).alloc qs _).alloc qt _
end
section
open ChangeShapes WideShapes ChangeAt RowKit Deep It
def xK (w:World) (L:List cL) (a b:Int) (x:cL) (e:Ending) (w':World):Prop :=
 ∃ u L',e=.returned (.tuple #[u,.int .i64 (dM L a b x)])/\cD (λb=>w.1.size<=b) w' u L'/\pl L'=iJ L a b x/\Bw w w'
theorem ur {w w':World}{L:List cL}{a b:Int}{x:cL}{e:Ending}{er:Int}(h:dM L a b x=er)(hz:er≠0)(he:e=.returned (.tuple #[.slice none 0 0,.int .i64 er]))(hb:Bw w w'):xK w L a b x e w':=by
 refine⟨_,[],?_,eG _ _,?_,hb⟩
 ·rw[he,h]
 ·unfold iJ;rw[h,ME hz];rfl
variable {S:Nat->Prop}
theorem qh {T:Nat->Prop}(v)(L)(a b)(x)(w)(hv:cD S w v L)(hx:Good T w x) :
  Calls Tryz.prog 182 #[v,.agg #[.int .i64 a,.int .i64 b],VI x] w λe w'=>xK w (pl L) a b x.i e w':=by
 replace hx:=hx.imp λ_ _ _=>trivial
 replace hv:=hv.wide;obtain⟨W,z⟩:=qF ((w.alloc (BH a b)).alloc (B8 x.i.gen x.i.kind x.i.cH x.i.size x.i.cF (.slice x.rp x.rn x.rc) (.slice x.ep x.en x.ec) x.i.next));have p:=hH<|show Bw w W by rw[z];exact (qG _ _).alloc qs _
 have f:Hid (W.1[w.1.size]?=some (BH a b)/\W.1[w.1.size+1]?=some (B8 x.i.gen x.i.kind x.i.cH x.i.size x.i.cF (.slice x.rp x.rn x.rc) (.slice x.ep x.en x.ec) x.i.next)):=by
  rw[z];refine⟨(ML _ _ _ qs).trans (MD _ _),?_⟩;have:=MD (w.alloc (BH a b)) (B8 x.i.gen x.i.kind x.i.cH x.i.size x.i.cF (.slice x.rp x.rn x.rc) (.slice x.ep x.en x.ec) x.i.next)
  rwa [show (w.alloc (BH a b)).1.size=w.1.size+1 by simp]at this
 have I:w.1.size+1<W.1.size:=by rw[z];simp
 have G:=hH<|hv.up p;have q:=hH<|hx.up p;obtain⟨⟨a0,a1⟩,_⟩:=cU f.out.1;obtain⟨ao,aa,rfl,_,_⟩:=hv.open;clear hv hx;obtain⟨fe,h⟩:=qE (cM (pl L) a b);have A:=hH h;have HI:Hid (x.i=x.i):=rfl;obtain⟨X,hX⟩:=qF x;rw[<-hX];rw[<-hX]at q;have J:X.i=x.i:=by rw[hX]
 obtain⟨⟨g,k,l,s,t,rs,es,nx⟩,rp,rn,rc,ep,en,ec⟩:=x;simp only at z f J;have K:VI X=.agg #[.int .i64 g,.int .i64 k,.int .i64 l,.int .i64 s,.int .i64 t,.slice rp rn rc,.slice ep en ec,.int .i64 nx]:=by rw[hX]
 have Y:=hH K;rw[K];have r:Hid (X.i.gen=g/\X.i.kind=k):=by rw[J];exact⟨rfl,rfl⟩
 clear hX J HI K
 by_cases hz:fe=0
 ·rw[hz]at h A;subst hz;obtain⟨hr,hn⟩:=It.jS h;obtain⟨d,y,rfl,R,U,B,V⟩:=It.named hn;have HK:Hid (d<=L.length/\L.length<=24):=⟨qo,It.ew hr⟩
  by_cases hc:g=b/\k≠0
  ·cases hrp:It.right (put (pl L) d X.i)with
   | true =>
    have F:Hid (dM (pl L) d b X.i=0/\It.eW (put (pl L) d X.i)=0):=by
     refine⟨?_,by unfold It.eW;rw[MC hrp]⟩;unfold dM;rw[MC h,MC (by rw[r.out.1,r.out.2];exact hc),show ((d:Int)).toNat=d from by omega,MC hrp]
    have M:(g != b)=false:=by simp[hc.1]
    have Z:(k==0)=false:=by simp[hc.2]
    clear h hr hn R U B V hc hrp;go_enter Tryz.func182,Tryz.ntmps182;go_wp2_with fail;rw[<-z];refine (dU _ L d b _ G).mono ?_;rintro e o ⟨rfl,c⟩;rw[A.out];have j:=qJ p c;have m:Hid (o.1[w.1.size]?=some (BH d b)/\o.1[w.1.size+1]?=some (B8 g k l s t (.slice rp rn rc) (.slice ep en ec) nx)):=⟨(c.block _ qo).trans f.out.1,(c.block _ I).trans f.out.2⟩;have N:=hH<|G.out.up c;have O:=hH<|q.out.up c;obtain⟨⟨e0,e1⟩,_⟩:=cU m.out.1;obtain⟨q0,q1,q2,q3,q4,q5,q6,q7⟩:=(dV m.out.2).1;clear c z a0 a1 G q f;go_wp2_with fail;rw[<-Y.out];refine (lZ _ L d X _ N O HK.out.2 HK.out.1).mono ?_;rintro e w2 ⟨tb,H,rfl,C,D,E⟩;have n:Hid (cD (λb=>o.1.size<=b) w2 tb H/\pl H=put (pl L) d X.i):=⟨C,D⟩;have P:=qJ j E;clear C D E;go_wp2_with fail;refine (du _ H _ n.out.1).mono ?_;rintro e w3 ⟨rfl,u⟩;rw[n.out.2,F.out.2];have ab:Hid _:=(n.out.1.up u).more j.size;have Q:=qJ P u;clear u;go_wp2
    go_ret2
    refine⟨tb,H,by rw[F.out.1];rfl,ab,?_,Q⟩;unfold iJ;rw[MC F.out.1,show ((d:Int)).toNat=d from by omega];exact n.out.2
   | false =>
    have F:Hid (dM (pl L) d b X.i=4/\It.eW (put (pl L) d X.i)=4):=by
     refine⟨?_,by unfold It.eW;rw[hrp];rfl⟩;unfold dM;rw[MC h,MC (by rw[r.out.1,r.out.2];exact hc),show ((d:Int)).toNat=d from by omega,hrp];rfl
    have M:(g != b)=false:=by simp[hc.1]
    have Z:(k==0)=false:=by simp[hc.2]
    clear h hr hn R U B V hc hrp;go_enter Tryz.func182,Tryz.ntmps182;go_wp2_with fail;rw[<-z];refine (dU _ L d b _ G).mono ?_;rintro e o ⟨rfl,c⟩;rw[A.out];have j:=qJ p c;have m:Hid (o.1[w.1.size]?=some (BH d b)/\o.1[w.1.size+1]?=some (B8 g k l s t (.slice rp rn rc) (.slice ep en ec) nx)):=⟨(c.block _ qo).trans f.out.1,(c.block _ I).trans f.out.2⟩;have N:=hH<|G.out.up c;have O:=hH<|q.out.up c;obtain⟨⟨e0,e1⟩,_⟩:=cU m.out.1;obtain⟨q0,q1,q2,q3,q4,q5,q6,q7⟩:=(dV m.out.2).1;clear c z a0 a1 G q f;go_wp2_with fail;rw[<-Y.out];refine (lZ _ L d X _ N O HK.out.2 HK.out.1).mono ?_;rintro e w2 ⟨tb,H,rfl,C,D,E⟩;have n:Hid (cD (λb=>o.1.size<=b) w2 tb H/\pl H=put (pl L) d X.i):=⟨C,D⟩;have P:=qJ j E;clear C D E;go_wp2_with fail;refine (du _ H _ n.out.1).mono ?_;rintro e w3 ⟨rfl,u⟩;rw[n.out.2,F.out.2];have Q:=qJ P u;clear u;go_wp2
    go_ret2
    exact ur F.out.1 qd rfl Q
  ·have F:=hH<|show dM (pl L) d b X.i = 1 by
    unfold dM;rw[MC h,ME (by rw[r.out.1,r.out.2];exact hc)]
   have ac:(g != b)=true\/((g != b)=false/\(k==0)=true):=by
    by_cases hgb:g=b
    ·refine .inr ⟨by simp[hgb],?_⟩
     by_cases hk0:k=0
     ·simp[hk0]
     ·exact absurd ⟨hgb,hk0⟩ hc
    ·exact .inl (by simp[hgb])
   clear h hr hn R U B V hc;rcases ac with M | ⟨M,Z⟩
   all_goals
    go_enter Tryz.func182,Tryz.ntmps182;go_wp2_with fail;rw[<-z];refine (dU _ L d b _ G).mono ?_;rintro e o ⟨rfl,c⟩;rw[A.out];have j:=qJ p c;have m:Hid (o.1[w.1.size]?=some (BH d b)/\o.1[w.1.size+1]?=some (B8 g k l s t (.slice rp rn rc) (.slice ep en ec) nx)):=⟨(c.block _ qo).trans f.out.1,(c.block _ I).trans f.out.2⟩;obtain⟨⟨e0,e1⟩,_⟩:=cU m.out.1;obtain⟨q0,q1,q2,q3,q4,q5,q6,q7⟩:=(dV m.out.2).1;clear c z a0 a1 G q f;go_wp2
    go_ret2
    exact ur F qd rfl j
 ·have F:=hH<|show dM (pl L) a b X.i = fe by
   unfold dM;rw[h,ME hz]
  have HZ:Hid _:=hz;have ad:(fe==0)=false:=by simp[hz]
  clear hz h;go_enter Tryz.func182,Tryz.ntmps182;go_wp2_with fail;rw[<-z];refine (dU _ L a b _ G).mono ?_;rintro e o ⟨rfl,c⟩;rw[A.out];have j:=qJ p c;clear c z a0 a1;go_wp2
  go_ret2
  exact ur F HZ rfl j
theorem gV (v)(L:List Rw)(a b:Int)(s:ByteArray)(w:World)(hv:cD S w v L)(eE:Sp.m6 L)(hs:s.size<=maxLen) :
  Calls Tryz.prog 205 #[v,.agg #[.int .i64 a,.int .i64 b],.string s] w λe w'=>e=.returned (.int .i64 (Sp.fH (pl L) a b s))/\Bw w w':=by
 have g:Hid (Bw w (w.alloc (BH a b))):=qG _ _;obtain⟨⟨p,r⟩,_⟩:=cU (MD w (BH a b));have l:=hH<|hv.up g;obtain⟨z,x,rfl,_,_⟩:=hv.open;have h:=hH eE;have i:=hH hs;clear hv eE hs;obtain⟨y,c⟩:=qE (Sp.fH (pl L) a b s);have t:=hH c;rw[c];unfold Sp.fH at c;obtain⟨m,k⟩:=qE (Sp.eY (pl L) a b s);have j:=hH k;rw[k]at c;clear k
 by_cases h0:m=0
 ·subst h0
  rw[MC rfl]at c;subst c;go_enter Tryz.func205,Tryz.ntmps205;go_wp2_with fail;refine (lY _ L a b s _ l h i).mono ?_;rintro e n ⟨rfl,f⟩;rw[j.out];generalize Sp.jD (pl L) a b s=q;have d:=qJ g f;clear p r l f;go_wp2;go_ret;refine⟨rfl,?_⟩;exact d.alloc d.size _
 ·have o : (m==0)=false := MQ.2 h0
  rw[ME h0]at c
  by_cases h2:m=402
  ·subst h2
   rw[MC rfl]at c;subst c;clear h0 o;go_enter Tryz.func205,Tryz.ntmps205;go_wp2_with fail;refine (lY _ L a b s _ l h i).mono ?_;rintro e n ⟨rfl,f⟩;rw[j.out];generalize Sp.jD (pl L) a b s=q;have d:=qJ g f;clear p r l f;go_wp2;go_ret;refine⟨rfl,?_⟩;exact d.alloc d.size _
  ·have u : (m==402)=false := MQ.2 h2
   rw[ME h2]at c;subst c;clear h0 h2;go_enter Tryz.func205,Tryz.ntmps205;go_wp2_with fail;refine (lY _ L a b s _ l h i).mono ?_;rintro e n ⟨rfl,f⟩;rw[j.out];generalize Sp.jD (pl L) a b s=q;have d:=qJ g f;clear p r l f;go_wp2;go_ret;refine⟨rfl,?_⟩;exact d.alloc d.size _
def Sp.linked (x:cL) (n st:Int):cL:=⟨x.gen,x.kind,x.cH+n,x.size,st,x.runs,x.cE,x.next⟩
theorem zC {w:World}{x:Rw}(h:Good S w x)(n st):Good S w ⟨Sp.linked x.i n st,x.rp,x.rn,x.rc,x.ep,x.en,x.ec⟩:=h
theorem wk (v:Value)(L:List Rw)(k:Nat)(b n st:Int)(x:Rw)(w:World)(hv:cD S w v L)(hk:L[k]?=some x)(he:At.ez x.i.kind x.i.cH x.i.size x.i.cF n st=0) :
  Calls Tryz.prog 185 #[v,.agg #[.int .i64 k,.int .i64 b],.int .i64 n,.int .i64 st] w λe w'=>∃ u L',e=.returned u/\cD (λb=>w.1.size<=b) w' u L'/\pl L'=iJ (pl L) k b (Sp.linked x.i n st)/\Bw w w':=by
 have r:Hid (cD S w v L):=hv;obtain⟨ao,H,rfl,t,z⟩:=hv.open;obtain⟨⟨bb,I,rfl,hB,J,K,M,N,O,P,Q,R⟩,A⟩:=z k x hk;have l:(k:Int)<(L.length:Int):=by have:=(MN.1 hk).1;omega
 have D:=hH A;have s:Hid (At.ez x.i.kind x.i.cH x.i.size x.i.cF n st=0/\At.pM x.i.kind x.i.cH x.i.size x.i.cF n st=VA x.i.kind (x.i.cH+n) x.i.size st):=⟨he,by unfold At.pM;rw[MC he]⟩;unfold maxLen at t;obtain⟨m,f⟩:=qE L.length;rw[f]at r t l |-;clear hv z A he hk f;go_enter Tryz.func185,Tryz.ntmps185;go_wp2_with fail;refine (Gl _ _ _ _ _ _ _).mono ?_;rintro e g ⟨rfl,c⟩;rw[s.out.1,s.out.2];have o:=hH<|((qG _ _).alloc qs _).trans (c.mono qt);have d:Hid (g.1[w.1.size]?=some (BH k b)/\g.1[w.1.size+1]?=some (jC x)):=by
  refine⟨(c.block _ qt).trans ((ML _ _ _ qs).trans (MD _ _)),(c.block _ qs).trans ?_⟩;have:=MD (w.alloc (BH k b)) (jC x)
  rwa [show (w.alloc (BH k b)).1.size=w.1.size+1 by simp]at this
 have E:w.1.size+1<g.1.size:=by have:=c.size;simp at this;omega
 obtain⟨⟨T,U⟩,_⟩:=cU d.out.1;obtain⟨⟨V,W,X,Y,Z,q5,q6,q7⟩,qf⟩:=dV d.out.2;clear c J K M N O P Q R d;go_wp2_with fail;have a:Hid (Bw w ((((g.setCell ⟨w.1.size+1,1,none⟩ (.int .i64 x.i.kind)).setCell ⟨w.1.size+1,2,none⟩ (.int .i64 (x.i.cH+n))).setCell ⟨w.1.size+1,3,none⟩ (.int .i64 x.i.size)).setCell ⟨w.1.size+1,4,none⟩ (.int .i64 st))):=by
  repeat (first | exact o | refine MP ?_ qs _)
 refine (qh _ L k b ⟨Sp.linked x.i n st,x.rp,x.rn,x.rc,x.ep,x.en,x.ec⟩ _ (r.up a) (zC (D.up a) n st)).mono ?_;rintro e B ⟨u,L',rfl,q,C,j⟩;have p:=qJ a j;have F:Hid (cD (λb=>w.1.size<=b) B u L'):=⟨q.1.imp λ_ h _=>MS a.size h,λy hy=>(q.2 y hy).imp λ_ h _=>MS a.size h⟩;have G:=hH C;clear j q C T U V W X Y Z q5 q6 q7;go_wp2;go_ret;exact⟨u,L',rfl,F,G,p⟩
end
end Go.Proofs.YtiifhfmekbhlnaaGreat
