/- Part 19. -/
import Derived.Laws.RangeAny
import Derived.Test.YtiifhfmekbhlnaaGreatH18
set_option maxHeartbeats 8000000
set_option maxRecDepth 100000
namespace Go.Proofs.YtiifhfmekbhlnaaGreat.Ks.Rs
namespace Pl
open Go.Proofs.YtiifhfmekbhlnaaGreat.Ks.Pl
theorem rH (l:List UInt8):∀ a:Nat,l.foldl (λn b=>256*n+b.toNat) a=a*256 ^ l.length+numOf l:=by
 induction l with
 | nil=>intro a;simp[numOf]
 | cons b l ih =>
  intro a;have c:=ih (256*a+b.toNat);have d:=ih (256*0+b.toNat);have e:numOf (b::l)=l.foldl (λn b=>256*n+b.toNat) (256*0+b.toNat):=rfl;rw[O0,c,e,d,MZ,Nat.pow_succ];generalize 256 ^ l.length=p;rw[OY p 256,<-Nat.mul_assoc,O6,O6,Nat.mul_zero,Nat.zero_mul,NS,OY a 256,NC]
theorem o8 (b:UInt8)(l:List UInt8):numOf (b::l)=b.toNat*256 ^ l.length+numOf l:=by
 have:=rH l (256*0+b.toNat);simpa [numOf]using this
theorem kx (m):∀ k,numOf (digits k m)=m % 256 ^ k
 | 0=>by simp[Az,numOf,Nat.mod_one]
 | k+1 => by
  rw[nN,o8,kx m k,gM,Nat.pow_succ,Nat.mod_mul,Od];have:m / 256 ^ k % 256 % 2 ^ 8=m / 256 ^ k % 256:=Nat.mod_eq_of_lt (by omega);rw[this,OY,Nat.add_comm]
theorem qR {n size:Int}(hn:n<=9223372036854775807)(h:ja n size=0) :
  de (cW n size)=n/\fO (cW n size)=0/\((cW n size).size:Int)=size:=by
 have c:gl n size=false:=by
  cases hc:gl n size with
  | false=>rfl
  | true=>simp[ja,hc]at h
 have b:cW n size=jA (digits size.toNat n.toNat):=by simp[cW,c]
 simp only[gl,Bool.or_eq_false_iff,decide_eq_false_iff_not,Classical.not_not]at c;obtain⟨k,j⟩:=c;obtain⟨m,rfl⟩:=N7 (show 0<=n by omega);obtain⟨z,rfl⟩:=N7 (show 0<=size by omega);rw[O3,O3]at b j;have d:m<256 ^ z:=by
  rcases Ow m (256 ^ z)with h' | h'
  ·exact h'
  ·have:=Nat.div_pos h' (Nat.pow_pos qd);omega
 have a:(jA (digits z m)).size=z:=by rw[iP,gM]
 have f:sX (jA (digits z m))=false:=by simp only[sX,a,decide_eq_false_iff_not];omega
 have g:tm (jA (digits z m))=false:=by
  unfold tm;rw[a,kb]
  by_cases h8:z=8
  ·subst h8
   have e:(digits 8 m).headD 0=UInt8.ofNat (m / 256 ^ 7 % 256):=by rw[nN];rfl
   have i:(256:Nat) ^ 7=72057594037927936:=qd
   rw[e,Od,i];simp;omega
  ·simp[h8]
 refine⟨?_,?_,?_⟩
 ·rw[b,de,f,g,kb,kx,Nat.mod_eq_of_lt d];rfl
 ·rw[b,fO,f,g];rfl
 ·rw[b,a]
end Pl
theorem Pl.fits {n size:Int}(h0:0<=n)(h1:1<=size)(h2:size<=8)(h3:n.toNat<256 ^ size.toNat):Pl.ja n size=0:=by
 have a:Pl.gl n size=false:=by
  unfold Pl.gl;rw[Nat.div_eq_of_lt h3];simp;omega
 simp[Pl.ja,a]
theorem At.BI {k l s t:Int}(h:At.right k l s t=true):At.db k l s t=Pl.cW k 1++Pl.cW l 1++Pl.cW s 4++Pl.cW t 6/\(Pl.de (Pl.cW k 1)=k/\(Pl.cW k 1).size=1)/\(Pl.de (Pl.cW l 1)=l/\(Pl.cW l 1).size=1)/\(Pl.de (Pl.cW s 4)=s/\(Pl.cW s 4).size=4)/\(Pl.de (Pl.cW t 6)=t/\(Pl.cW t 6).size=6):=by
 have b:=At.cG.1 h;unfold At.dN at b;have a:(256:Nat) ^ (1:Int).toNat=256:=qd
 have c:(256:Nat) ^ (4:Int).toNat=4294967296:=qd
 have d:(256:Nat) ^ (6:Int).toNat=281474976710656:=qd
 obtain⟨f,_,m⟩:=Pl.qR (n:=k) (size:=1) qo (Pl.fits qo qd qd (by rw[a];omega));obtain⟨g,_,o⟩:=Pl.qR (n:=l) (size:=1) qo (Pl.fits qo qd qd (by rw[a];omega));obtain⟨i,_,p⟩:=Pl.qR (n:=s) (size:=4) qo (Pl.fits qo qd qd (by rw[c];omega));obtain⟨j,_,q⟩:=Pl.qR (n:=t) (size:=6) qo (Pl.fits qo qd qd (by rw[d];omega));refine⟨by simp[At.db,h],⟨f,qo⟩,⟨g,qo⟩,⟨i,qo⟩,⟨j,qo⟩⟩
theorem Pl.qI (a b c:ByteArray)(i j:Nat) (hi:a.size=i) (hj:a.size+b.size=j):(a++b++c).extract i j=b:=by
 rw[Pl.fX];have e:(a++b++c).data.toList=a.data.toList++b.data.toList++c.data.toList:=qs
 have d:a.data.toList.length=i:=by rw[<-hi];simp
 have f:b.data.toList.length=j-i:=by rw[<-hj,<-hi];simp
 rw[e,Nq,List.drop_left' d,List.take_left' f,Pl.gk]
theorem Pl.pU (a b c:ByteArray):a++b++c=a++(b++c):=ByteArray.append_assoc
theorem Pl.KA (a:ByteArray):⟨#[]⟩++a=a:=by
 apply ByteArray.ext
 simp
theorem Pl.Ir (a:ByteArray):a++⟨#[]⟩=a:=by
 apply ByteArray.ext
 simp
theorem At.back {k l s t:Int} (h:At.right k l s t=true):(At.db k l s t).size=12/\At.dX (At.db k l s t)=0/\At.dA (At.db k l s t)=VA k l s t:=by
 obtain⟨p,⟨q,i⟩,⟨r,w⟩,⟨u,x⟩,⟨v,y⟩⟩:=At.BI h;rw[p];generalize Pl.cW k 1=A at *;generalize Pl.cW l 1=B at *;generalize Pl.cW s 4=C at *;generalize Pl.cW t 6=D at *;have a:(A++B++C++D).size=12:=by simp only[ByteArray.size_append];omega
 have j:(A++B++C++D).extract 0 1=A:=by
  have:=Pl.qI ⟨#[]⟩ A (B++(C++D)) 0 1 rfl (by rw[i];rfl);rw[Pl.KA]at this;rw[Pl.pU,Pl.pU,this]
 have m:(A++B++C++D).extract 1 2=B:=by
  have:=Pl.qI A B (C++D) 1 2 i (by omega);rw[Pl.pU (A++B),this]
 have n:(A++B++C++D).extract 2 6=C:=Pl.qI (A++B) C D 2 6 (by simp only[ByteArray.size_append];omega) (by simp only[ByteArray.size_append];omega);have o:(A++B++C++D).extract 6 12=D:=by
  have:=Pl.qI (A++B++C) D ⟨#[]⟩ 6 12 (by simp only[ByteArray.size_append];omega) (by simp only[ByteArray.size_append];omega);rw[Pl.Ir]at this;exact this
 have b:At.k (A++B++C++D)=k:=by unfold At.k;rw[j,q]
 have c:At.l (A++B++C++D)=l:=by unfold At.l;rw[m,r]
 have d:At.s (A++B++C++D)=s:=by unfold At.s;rw[n,u]
 have f:At.t (A++B++C++D)=t:=by unfold At.t;rw[a,o,v]
 have g:At.dX (A++B++C++D)=0:=by unfold At.dX;rw[MC a,b,c,d,f,MC h]
 refine⟨a,g,?_⟩;unfold At.dA;rw[MC g,b,c,d,f]
namespace Nm
def clean (s:ByteArray) (p:Nat):Prop:=∀ i (h:i<s.size),i<p->(s[i]'h).toNat≠47/\(s[i]'h).toNat≠0
def ok (s:ByteArray):Prop:=1<=s.size/\s.size<=32/\s≠⟨#[46]⟩/\s≠⟨#[46,46]⟩/\clean s s.size
def okB (s:ByteArray):Bool:=decide (1<=s.size) && (decide (s.size<=32) && (!(s.data.toList == [46]) && (!(s.data.toList == [46,46]) && s.data.toList.all λb=>b.toNat != 47 && b.toNat != 0)))
theorem AE {s:ByteArray}{a:Array UInt8}:s=⟨a⟩ ↔ s.data.toList=a.toList:=⟨λh=>by rw[h],λh=>by cases s;simp only[ByteArray.mk.injEq];exact Array.toList_inj.1 h⟩
theorem xz {s:ByteArray}:okB s=true ↔ ok s:=by
  unfold okB ok clean
  simp only[Bool.and_eq_true,decide_eq_true_eq,Bool.not_eq_true',beq_eq_false_iff_ne,List.all_eq_true,bne_iff_ne,ne_eq]
  refine and_congr Iff.rfl (and_congr Iff.rfl (and_congr (not_congr AE.symm) (and_congr (not_congr AE.symm) ?_)))
  constructor
  · intro h i hi _
    have hm:s[i]'hi∈s.data.toList:=by
      have:s[i]'hi=s.data[i]'hi:=rfl
      rw[this]
      exact Array.getElem_mem_toList _
    exact h _ hm
  · intro h b hb
    obtain⟨i,hi,rfl⟩:=List.getElem_of_mem hb
    have hi':i<s.size:=by rw[On]at hi;exact hi
    have:=h i hi' hi'
    rw[Array.getElem_toList]
    exact this
def err (s:ByteArray):Int:=if okB s then 0 else 409
theorem jP {s:ByteArray}(h:ok s):err s=0:=by unfold err;rw[MC (xz.2 h)]
theorem ir {s:ByteArray}(h:¬ ok s):err s=409:=by unfold err;rw[ME λe=>h (xz.1 e)]
theorem og (s):(err s=0/\ok s)\/(err s=409/\¬ ok s):=by
 by_cases h:ok s
 ·exact .inl ⟨jP h,h⟩
 ·exact .inr ⟨ir h,h⟩
theorem pw (s):clean s 0:=λi _ h=>by omega
theorem rL {s:ByteArray}{p:Nat}(h:p<s.size)(hb:(s[p]'h).toNat=47\/(s[p]'h).toNat=0):¬ ok s:=λa=>by
 have:=a.2.2.2.2 p h h;rcases hb with hb | hb
 ·exact this.1 hb
 ·exact this.2 hb
theorem uS (s:ByteArray)(i:Nat)(h:i<s.size):s.get! i=s[i]'h:=by
 simp[ByteArray.get!,getElem!_pos,h];rfl
theorem jZ (s)(pos)(h:pos<s.size):1<=(Utf8.decode s pos).2/\pos+(Utf8.decode s pos).2<=s.size/\∀ k,1<=k->k<(Utf8.decode s pos).2->128<=(s.get! (pos+k)).toNat:=by
  by_cases ha:(s[pos]'h).toNat<128
  · rw[decode_ascii s pos h ha]
    exact⟨qn,h,λk h1 h2=>by simp at h2;omega⟩
  · simp only[Utf8.decode,get_at s pos h,ha,if_false]
    generalize h1:(s.get! (pos+1)).toNat=b1;generalize h2:(s.get! (pos+2)).toNat=b2;generalize h3:(s.get! (pos+3)).toNat=b3;have one:∀ k,1<=k->k<1->128<=(s.get! (pos+k)).toNat:=λk _ _=>by omega
    repeat' split
    all_goals simp only[Bool.and_eq_true,decide_eq_true_eq,beq_iff_eq]at *
    all_goals refine⟨qd,qo,?_⟩
    all_goals first
      | exact one
      | (intro k hk1 hk2
         have hk:k=1\/k=2\/k=3:=qo
         rcases hk with rfl | rfl | rfl
         · rw[h1];omega
         · rw[h2];omega
         · rw[h3];omega)
theorem k9 (s)(pos)(h:pos<s.size):((Utf8.decode s pos).1=47 ↔ (s[pos]'h).toNat=47)/\((Utf8.decode s pos).1=0 ↔ (s[pos]'h).toNat=0):=by
 by_cases ha:(s[pos]'h).toNat<128
 ·rw[decode_ascii s pos h ha]
  exact⟨Iff.rfl,Iff.rfl⟩
 ·have := (decode_high s pos h qo).1
  constructor <;> constructor <;> intro a <;> omega
theorem py {s:ByteArray}{p:Nat}(h:p<s.size)(hc:clean s p)(h1:(Utf8.decode s p).1≠47)(h2:(Utf8.decode s p).1≠0):clean s (p+(Utf8.decode s p).2):=λi d f=>by
 obtain⟨a,b⟩:=k9 s p h
 by_cases e:i<p
 ·exact hc i d e
 ·by_cases e2 : i=p
  ·subst e2
   exact⟨λc=>h1 (a.2 c),λc=>h2 (b.2 c)⟩
  ·have := (jZ s p h).2.2 (i-p) qo (by omega)
   rw[show p+(i-p)=i by omega,uS s i d]at this;constructor <;> omega
end Nm
abbrev eA:=ByteArray × Int × Int × Int
def EE:fY eA:=⟨4,λx=>[.string x.1,.int .i64 x.2.1,.int .i64 x.2.2.1,.int .i64 x.2.2.2],λ_=>rfl,λx u hu=>by
 simp at hu;rcases hu with rfl | rfl | rfl | rfl <;> rfl⟩
end Go.Proofs.YtiifhfmekbhlnaaGreat.Ks.Rs
namespace Go.Proofs.YtiifhfmekbhlnaaGreat.Ks
open ChangeShapes WideShapes ChangeAt RowKit Deep
def cT (B : Nat) (w : World) (v : Value) (l : List (Int × ByteArray)) : Prop :=
 (∃ ao cap,v=.slice ao 0 cap/\l=[]) \/
 (∃ b off cap,v=.slice (some ⟨b,off,none⟩) l.length cap/\b<B/\0<l.length/\l.length<=cap/\cap<=maxLen /\
  ∀ i,i<l.length->w.cell? ⟨b,off+i*2,none⟩=some (.int .i64 (l.getD i (0,.empty)).1)/\w.cell? ⟨b,off+i*2+1,none⟩=some (.string (l.getD i (0,.empty)).2))
variable {w w':World} {v:Value} {B C:Nat}
theorem cT.below {l:List (Int × ByteArray)}(h:cT B w v l)(hb:Below C w w')(hC:B<=C):cT B w' v l:=by
 rcases h with h | ⟨b,a,c,d,f,g,j,k,m⟩
 ·exact .inl h
 ·refine .inr ⟨b,a,c,d,f,g,j,k,λi n => ?_⟩
  rw[hb.cell (p:=⟨b,a+i*2,none⟩) (by show b<C;omega),hb.cell (p:=⟨b,a+i*2+1,none⟩) (by show b<C;omega)];exact m i n
theorem cT.mono {l:List (Int × ByteArray)}(h:cT B w v l)(hC:B<=C):cT C w v l:=by
 rcases h with h | ⟨b,c,d,f,m,g,i,j,k⟩
 ·exact .inl h
 ·exact .inr ⟨b,c,d,f,qo,g,i,j,k⟩
def dQ (l:List (Int × ByteArray)):Prop:=∀ x∈l,(-9223372036854775808<=x.1/\x.1<=9223372036854775807)/\x.2.size<=maxLen
theorem dQ.at {l:List (Int × ByteArray)}(h:dQ l){i:Nat}(hi:i<l.length):(-9223372036854775808<=(l.getD i (0,.empty)).1/\(l.getD i (0,.empty)).1<=9223372036854775807)/\(l.getD i (0,.empty)).2.size<=maxLen:=by
 have:l.getD i (0,.empty)∈l:=by simp[List.getD,hi]
 exact h _ this
def uE (B : Nat) (w : World) (v : Value) (l : List ByteArray) : Prop :=
 (∃ ao cap,v=.slice ao 0 cap/\l=[]) \/
 (∃ b off cap,v=.slice (some ⟨b,off,none⟩) l.length cap/\b<B/\0<l.length/\l.length<=cap/\cap<=maxLen /\
  ∀ i,i<l.length->w.cell? ⟨b,off+i,none⟩=some (.string (l.getD i .empty)))
theorem uE.below {l:List ByteArray}(h:uE B w v l)(hb:Below C w w')(hC:B<=C):uE B w' v l:=by
 rcases h with h | ⟨b,c,d,f,g,j,k,m,n⟩
 ·exact .inl h
 ·refine .inr ⟨b,c,d,f,g,j,k,m,λi o => ?_⟩
  rw[hb.cell (p:=⟨b,c+i,none⟩) (by show b<C;omega)];exact n i o
variable {base:Nat} {e:TypeId}
theorem uE.sj {l:List ByteArray}(h:w.ownsRow base e 1 v l.length (l.map Value.string)):uE w.1.size w v l:=by
 have b:=h.lt;rcases h.2 with⟨rfl,k⟩ | ⟨g,c,m,rfl,n,q,d,f,o,j⟩
 ·exact .inl ⟨none,0,rfl,MX k⟩
 ·by_cases hp : 0<l.length
  ·refine .inr ⟨g,0,c,rfl,(b g rfl).2,hp,d,f,λi p => ?_⟩
   have:=h.cells (g:=g) rfl i (.string (l.getD i .empty)) (by simp[List.getD,p]);rw[Nu]at this;exact this
  ·have : l=[] := MX qo
   subst this;exact .inl ⟨_,_,rfl,rfl⟩
def cellsOf (l:List (Int × ByteArray)):List Value:=l.flatMap λx=>[.int .i64 x.1,.string x.2]
theorem fz (l m):cellsOf (l++m)=cellsOf l++cellsOf m:=by simp[cellsOf]
theorem jG (l):∀ i,i<l.length->(cellsOf l)[i*2]?=some (.int .i64 (l.getD i (0,.empty)).1)/\(cellsOf l)[i*2+1]?=some (.string (l.getD i (0,.empty)).2):=by
 induction l with
 | nil=>intro i a;simp at a
 | cons x l ih =>
  intro i a
  match i,a with
  | 0,_=>simp[cellsOf]
  | i+1,a =>
   have:=ih i (by simpa using a);have e:cellsOf (x::l)=.int .i64 x.1::.string x.2::cellsOf l:=by simp[cellsOf]
   rw[e,show (i+1)*2=i*2+1+1 from by omega];simpa using this
theorem cT.sj {l:List (Int × ByteArray)}(h:w.ownsRow base e 2 v l.length (cellsOf l)):cT w.1.size w v l:=by
 have a:=h.lt;rcases h.2 with⟨rfl,n⟩ | ⟨g,b,o,rfl,p,r,c,d,q,f⟩
 ·exact .inl ⟨none,0,rfl,MX n⟩
 ·by_cases hp : 0<l.length
  ·refine .inr ⟨g,0,b,rfl,(a g rfl).2,hp,c,d,λi m => ?_⟩
   have j:=h.cells (g:=g) rfl (i*2) _ (jG l i m).1;have k:=h.cells (g:=g) rfl (i*2+1) _ (jG l i m).2;rw[Nu]at j k;exact⟨j,by rw[NC];exact k⟩
  ·have : l=[] := MX qo
   subst this;exact .inl ⟨_,_,rfl,rfl⟩
namespace Pl
def dj (l:List (Int × ByteArray)) (tag:Int):List ByteArray:=(l.filter λx=>x.1==tag).map (·.2)
end Pl
namespace Pl
theorem xh {l:List (Int × ByteArray)}{k:Nat}(hk:k<l.length):l.take (k+1)=l.take k++[l.getD k (0,.empty)]:=by
 rw[Np hk];simp[List.getD,hk]
variable {x:Int × ByteArray}
theorem Eu {l:List (Int × ByteArray)}{tag:Int}{k:Nat}(hk:k<l.length)(h:l.getD k (0,.empty)=x)(hx:(x.1==tag)=true):dj (l.take (k+1)) tag=dj (l.take k) tag++[x.2]:=by
 rw[xh hk,h];simp[dj,hx]
theorem Bh {l:List (Int × ByteArray)}{tag:Int}{k:Nat}(hk:k<l.length)(h:l.getD k (0,.empty)=x)(hx:(x.1==tag)=false):dj (l.take (k+1)) tag=dj (l.take k) tag:=by
 rw[xh hk,h];simp[dj,hx]
theorem FQ (l:List (Int × ByteArray))(tag:Int)(k:Nat):(dj (l.take k) tag).length<=k:=by
 simp only[dj,List.length_map];exact MS (OH _ _) (List.length_take_le _ _)
end Pl
theorem Lf:(Tryz.prog.info? 9).map (λi=>(i.zero,i.size,i.bytes))=some (some (.string ⟨#[]⟩),1,16):=qk
theorem IZ (v : Value)(l : List (Int × ByteArray))(tag : Int)(w : World) (hv : cT w.heap.size w v l) (hr : l.length*24 ≤ 140737488351232) :
  Calls Tryz.prog 150 #[v,.int .i64 tag] w λe w'=>∃ r,e=.returned r/\w'.ownsRow w.heap.size 9 1 r (Pl.dj l tag).length ((Pl.dj l tag).map Value.string)/\Bw w w':=by
 rcases hv with⟨ao,cap,rfl,rfl⟩ | ⟨b,off,cap,rfl,K,O,z,hm,hx⟩
 ·go_enter Tryz.func150, Tryz.ntmps150
  go_wp2;refine OV 1 ?_;rw[NR];go_wp2;go_ret;exact⟨_,rfl,NH _ _ _ _,MJ _ _⟩
 ·unfold maxLen at hm
  obtain⟨Q,hi,C,hz1,E⟩:=NQ Lf;obtain⟨n,hn⟩:=qE l.length;rw[hn]at O z hx hr |-;have m:Hid (l.length=n):=hn;have M:Hid (∀ i,i<n->w.cell? ⟨b,off+i*2,none⟩=some (.int .i64 (l.getD i (0,.empty)).1)/\w.cell? ⟨b,off+i*2+1,none⟩=some (.string (l.getD i (0,.empty)).2)):=hx;clear hn hx;go_enter Tryz.func150,Tryz.ntmps150;go_wp2;go_loopw [5,10] (λr i wr=>∃ k:Nat,k<=n/\i=.int .i64 k/\wr.ownsRow w.heap.size 9 1 r (Pl.dj (l.take k) tag).length ((Pl.dj (l.take k) tag).map Value.string)/\Bw w wr) (λ_ i _=>n-(intOf i).toNat)
  case atStart=>exact⟨0,MV _,rfl,NH _ _ _ _,MJ _ _⟩
  case round =>
   obtain⟨k,X,rfl,hown,c⟩:=hrel
   by_cases hlt:k<n
   ·obtain⟨T, c1⟩ := M.out k hlt
    rw[<-c.cell (p:=⟨b,off+k*2,none⟩) K]at T;rw[<-c.cell (p:=⟨b,off+k*2+1,none⟩) K]at c1;generalize hf:l.getD k (0,.empty)=f at *;have I:Hid (l.getD k (0,.empty)=f):=hf;clear hf;obtain⟨t,s⟩:=f
    by_cases ht:t=tag
    ·subst ht
     have hle:=Pl.FQ l t k;have HA:Hid (Pl.dj (l.take (k+1)) t=Pl.dj (l.take k) t++[s]):=Pl.Eu (by rw[m.out];exact hlt) I.out (by simp);generalize Pl.dj (l.take k) t=A at *;have q:=c.size
     go_wp2_with (at_builtin;refine OP _ rfl _ _ 40 rfl w.heap.size 9 Q (.string ⟨#[]⟩) 1 16 Tryz.underlying40 hi C hz1 E rfl (by decide) _ _ _ rfl ((hown.alloc _).alloc _) ⟨wr.heap.size+1,0,none⟩ 1 1 [.string s] rfl rfl ?c1 ?c2 ?c3 ?c4 ?c5 ?_)
     case c2=>rfl
     case c3=>unfold maxLen;omega
     case c4=>omega
     case c5=>omega
     intro v' G hown' h _;have hb':=((c.alloc q _).alloc qt _).grown h qt (λg V=>(hown.lt g V).1);have R0:G.ownsRow w.1.size 9 1 v' (Pl.dj (l.take (k+1)) t).length ((Pl.dj (l.take (k+1)) t).map Value.string):=by
      rw[HA.out];simpa using hown'
     have R:=hH R0;clear hown' h hown R0;go_wp2
     go_roundw
     case rel=>exact⟨k+1,qo,by go_num,R,hb'⟩
     case measure=>simp[intOf];omega
    ·have x : (t==tag)=false := by simp[ht]
     have HA:=hH<|Pl.Bh (by rw[m.out];exact hlt) I x;go_wp2
     go_roundw
     case rel=>exact⟨k+1,qo,by go_num,by rw[HA.out];exact hown.alloc _,c.alloc c.size _⟩
     case measure=>simp[intOf];omega
   ·obtain rfl : k=n := by omega
    rw[MY (by rw[m.out];exact MI _)]at hown;go_wp2;go_ret;exact⟨_,rfl,hown,c⟩
end Go.Proofs.YtiifhfmekbhlnaaGreat.Ks
namespace Go.Proofs.YtiifhfmekbhlnaaGreat.Ks.Rs
open Go.Proofs.YtiifhfmekbhlnaaGreat.Ks.Ak
structure gw where
 e:Int
 no:Int
 gen:Int
 k:Int
 l:Int
 s:Int
 t:Int
 data:ByteArray
 cE:List eA
 n:Int
namespace Re
def zero:gw:=⟨0,0,0,0,0,0,0,⟨#[]⟩,[],0⟩
def Lp (last:Int) (x:eA):Prop:=(last+1<=x.2.1/\x.2.1<=1099511627776)/\Nm.ok x.1/\lN x.2.2.1 x.2.2.2
def lq:Int->List eA->Prop
 | _,[]=>True
 | last,x::l=>Lp last x/\lq x.2.1 l
def dN (r:gw):Prop:=(0<=r.e/\r.e<=65535)/\lN r.no r.gen/\At.right r.k r.l r.s r.t=true/\r.data.size<=512/\(r.cE.length<=64/\lq 0 r.cE)/\(0<=r.n/\r.n<=1099511627776)
def K7 (last:Int) (x:eA):Bool:=decide (last+1<=x.2.1/\x.2.1<=1099511627776)&&(Nm.okB x.1&&eE x.2.2.1 x.2.2.2)
def Fs:Int->List eA->Bool
 | _,[]=>true
 | last,x::l=>K7 last x&&Fs x.2.1 l
theorem Ar:∀ {last:Int} {l:List eA},Fs last l=true ↔ lq last l
 | _,[]=>by simp[Fs,lq]
 | last,x::l => by
  unfold Fs lq K7 Lp eE;rw[MR,Ar,MR,MR,Nm.xz,M4,M4]
def wR (l:List eA):Bool:=decide (l.length<=64)&&Fs 0 l
theorem ot {l:List eA}:wR l=true ↔ (l.length<=64/\lq 0 l):=by unfold wR;rw[MR,M4,Ar]
theorem zW {l:List eA}:wR l=false ↔ ¬ (l.length<=64/\lq 0 l):=by rw[<-ot];simp
def right (r:gw):Bool:=decide (0<=r.e/\r.e<=65535)&&(eE r.no r.gen&&(At.right r.k r.l r.s r.t&&(decide (r.data.size<=512)&&(wR r.cE&&decide (0<=r.n/\r.n<=1099511627776)))))
variable {r:gw}
theorem cG:right r=true ↔ dN r:=by
 unfold right dN eE;rw[MR,MR,MR,MR,MR,ot,M4,M4,M4,M4]
theorem iy:right r=false ↔ ¬ dN r:=by rw[<-cG];simp
def JC (k l s t:Int):Bool:=!(k==0&&(l==0&&(s==0&&t==0)))
def ig (x:eA):ByteArray:=Pl.cW x.2.1 6++ek x.2.2.1 x.2.2.2++x.1
def f1 (r:gw):List (Int × ByteArray):=opt (r.e != 0) (1,Pl.cW r.e 2)
def f2 (r:gw):=f1 r++opt (vG r.no r.gen) (2,ek r.no r.gen)
def f3 (r:gw):=f2 r++opt (JC r.k r.l r.s r.t) (3,At.db r.k r.l r.s r.t)
def f4 (r:gw):=f3 r++opt (Bf r.data) (4,r.data)
def ef (l:List eA):List (Int × ByteArray):=l.map λx=>(5,ig x)
def f5 (r:gw):=f4 r++ef r.cE
def fields (r:gw):=f5 r ++ opt (r.n != 0) (6,Pl.cW r.n 6)
def db (r:gw):ByteArray:=if right r then Pl.jA (Pl.encs (fields r)) else ⟨#[]⟩
def dd (r:gw):Int:=if right r then 0 else 4
theorem ow:∀ {l:List eA} {last:Int},lq last l->0<=last->∀ x∈l,(1<=x.2.1/\x.2.1<=1099511627776)/\Nm.ok x.1/\lN x.2.2.1 x.2.2.2
 | [],_,_,_,x,hx=>by cases hx
 | y::l,last,h,h0,x,hx => by
  obtain⟨⟨⟨h1,h2⟩,h3,h4⟩,h5⟩:=h;rcases Ni.1 hx with rfl | hx
  ·exact⟨⟨qo,h2⟩,h3,h4⟩
  ·exact ow h5 qo x hx
theorem kE {c:Int}(h:1<=c/\c<=1099511627776):0<=c/\c.toNat<256 ^ 6:=⟨qo,qo⟩
theorem sK {x:eA}(hc:1<=x.2.1/\x.2.1<=1099511627776)(hh:lN x.2.2.1 x.2.2.2):(ig x).size=13+x.1.size:=by
 have a:(Pl.cW x.2.1 6).size=6:=kX (z:=6) (kE hc).1 qo qo (kE hc).2;have b:=nO hh;unfold ig;rw[Nv,Nv,a,b]
def jr (s:ByteArray):eA:=if s.size<13 then (⟨#[]⟩,0,0,0) else (s.extract 13 s.size,Pl.de (s.extract 0 6),jR (s.extract 6 13),iC (s.extract 6 13))
theorem FV {x:eA} (hc:1<=x.2.1/\x.2.1<=1099511627776) (hh:lN x.2.2.1 x.2.2.2):jr (ig x)=x:=by
 have b:=sK hc hh;have a:(Pl.cW x.2.1 6).size=6:=kX (z:=6) (kE hc).1 (by omega) (by omega) (kE hc).2;have h:=nO hh;unfold jr;rw[ME (by omega),b];unfold ig;have c:(Pl.cW x.2.1 6++ek x.2.2.1 x.2.2.2++x.1).extract 0 6=Pl.cW x.2.1 6:=by
  rw[Pl.pU];exact pO _ _ 6 a
 have d:(Pl.cW x.2.1 6++ek x.2.2.1 x.2.2.2++x.1).extract 6 13=ek x.2.2.1 x.2.2.2:=Pl.qI _ _ _ 6 13 a (by omega);have f:(Pl.cW x.2.1 6++ek x.2.2.1 x.2.2.2++x.1).extract 13 (13+x.1.size)=x.1:=oR _ _ 13 _ (by rw[Nv];omega) (by rw[Nv];omega);rw[c,d,f,(zA hh).1,(zA hh).2];have g:Pl.de (Pl.cW x.2.1 6)=x.2.1:=lC (z:=6) (kE hc).1 (by omega) (by omega) (kE hc).2;rw[g]
def ua (S:ByteArray):Int × Int × Int × Int:=if At.dX S=0 then (At.k S,At.l S,At.s S,At.t S) else (0,0,0,0)
theorem G5 (S):At.dA S=VA (ua S).1 (ua S).2.1 (ua S).2.2.1 (ua S).2.2.2:=by
 unfold At.dA ua;split <;> rfl
theorem Jz {k l s t:Int}(h:At.right k l s t=true):ua (At.db k l s t)=(k,l,s,t):=by
 obtain⟨_,g,f⟩:=At.back h;rw[G5]at f;simp only[Value.agg.injEq,Array.mk.injEq,List.cons.injEq,Value.int.injEq,true_and,and_true]at f;obtain⟨a,b,c,d⟩:=f;exact Prod.ext a (Prod.ext b (Prod.ext c d))
def eT (l:List (Int × ByteArray)):gw :=
 ⟨Pl.de (eR l 1),jR (eR l 2),iC (eR l 2),(ua (eR l 3)).1,(ua (eR l 3)).2.1,(ua (eR l 3)).2.2.1,(ua (eR l 3)).2.2.2,eR l 4,(Pl.dj l 5).map jr,Pl.de (eR l 6)⟩
theorem dS (l)(b)(t)(s)(u):eR (l++opt b (t,s)) u=if b=true/\t=u then s else eR l u:=by
 unfold opt
 cases b with
 | true =>
  rw[MC rfl,nL]
  by_cases h:t=u <;> simp[h]
 | false=>simp
theorem ka (es)(l)(u)(h:u≠5):eR (l++ef es) u=eR l u:=by
 induction es using yf with
 | h0=>simp[ef]
 | h1 es x ih =>
  have:ef (es++[x])=ef es++[(5,ig x)]:=by simp[ef]
  rw[this,<-Nq,nL,ME (by simp only;omega),ih]
theorem qq (a b)(t):Pl.dj (a++b) t=Pl.dj a t++Pl.dj b t:=by simp[Pl.dj]
theorem l8 (b)(t)(s)(u)(h:t≠u):Pl.dj (opt b (t,s)) u=[]:=by
 unfold opt
 cases b <;> simp[Pl.dj,h]
theorem Hr (es):Pl.dj (ef es) 5=es.map ig:=by
 unfold ef Pl.dj;rw[Om.2 (by intro x a;obtain⟨y,_,rfl⟩:=NI.1 a;simp),List.map_map];rfl
theorem nS (h:dN r):eT (fields r)=r:=by
  obtain⟨he,hh,ha,hd,⟨hl,hx⟩,hn⟩:=h
  have hm:=ow hx (Ng 0)
  have z0:∀ u,eR ([]:List (Int × ByteArray)) u=⟨#[]⟩:=λ_=>rfl
  have c1:eR (f1 r) 1=if (r.e != 0)=true then Pl.cW r.e 2 else ⟨#[]⟩:=by
    have:=dS [] (r.e != 0) 1 (Pl.cW r.e 2) 1
    rw[Nt]at this
    unfold f1
    rw[this]
    simp[z0]
  have d1:∀ u,u≠1->eR (f1 r) u=⟨#[]⟩:=λu hu=>by
    have:=dS [] (r.e != 0) 1 (Pl.cW r.e 2) u
    rw[Nt]at this
    unfold f1
    rw[this,ME (by intro hh;exact hu hh.2.symm),z0]
  have v1:eR (fields r) 1=eR (f1 r) 1:=by
    unfold fields f5 f4 f3 f2
    rw[dS,ME qs,ka _ _ _ qd,dS,ME qs,dS,ME qs,dS,ME qs]
  have v2:eR (fields r) 2=if vG r.no r.gen=true then ek r.no r.gen else ⟨#[]⟩:=by
    unfold fields f5 f4 f3 f2
    rw[dS,ME qs,ka _ _ _ qd,dS,ME qs,dS,ME qs,dS,d1 2 qd]
    simp
  have v3:eR (fields r) 3=if JC r.k r.l r.s r.t=true then At.db r.k r.l r.s r.t else ⟨#[]⟩:=by
    unfold fields f5 f4 f3 f2
    rw[dS,ME qs,ka _ _ _ qd,dS,ME qs,dS,dS,d1 3 qd]
    simp
  have v4:eR (fields r) 4=if Bf r.data=true then r.data else ⟨#[]⟩:=by
    unfold fields f5 f4 f3 f2
    rw[dS,ME qs,ka _ _ _ qd,dS,dS,dS,d1 4 qd]
    simp
  have v6:eR (fields r) 6=if (r.n != 0)=true then Pl.cW r.n 6 else ⟨#[]⟩:=by
    unfold fields f5 f4 f3 f2
    rw[dS,ka _ _ _ qd,dS,dS,dS,d1 6 qd]
    simp
  have v5:Pl.dj (fields r) 5=r.cE.map ig:=by
    unfold fields f5 f4 f3 f2 f1
    simp only[qq]
    rw[l8 _ _ _ _ qd,l8 _ _ _ _ qd,l8 _ _ _ _ qd,l8 _ _ _ _ qd,l8 _ _ _ _ qd,Hr]
    simp
  have w5:(r.cE.map ig).map jr=r.cE:=by
    rw[List.map_map]
    have:∀ x∈r.cE,(jr ∘ ig) x=x:=λx hx=>FV (hm x hx).1 (hm x hx).2.2
    exact (Pg this).trans (List.map_id _)
  have nz:Pl.de ⟨#[]⟩=0:=qd
  have hz:jR ⟨#[]⟩=0/\iC ⟨#[]⟩=0:=qd
  have uz:ua ⟨#[]⟩=(0,0,0,0):=by
    unfold ua
    rw[ME]
    unfold At.dX
    rw[ME qd]
    decide
  have a1:Pl.de (eR (fields r) 1)=r.e:=by
    rw[v1,c1]
    by_cases h0:r.e=0
    · simp[h0,nz]
    · rw[MC (by simpa using h0)];exact lC (z:=2) qo qo qo qo
  have a2:jR (eR (fields r) 2)=r.no/\iC (eR (fields r) 2)=r.gen:=by
    rw[v2]
    cases hq:vG r.no r.gen with
    | true=>rw[MC rfl];exact zA hh
    | false=>obtain⟨e1,e2⟩:=GX hq;rw[ME qd,e1,e2];exact hz
  have a3:ua (eR (fields r) 3)=(r.k,r.l,r.s,r.t):=by
    rw[v3]
    cases hq:JC r.k r.l r.s r.t with
    | true=>rw[MC rfl];exact Jz ha
    | false =>
      unfold JC at hq
      simp at hq
      obtain⟨e1,e2,e3,e4⟩:=hq
      rw[ME qd,e1,e2,e3,e4]
      exact uz
  have a4:eR (fields r) 4=r.data:=by
    rw[v4]
    cases hq:Bf r.data with
    | true=>rw[MC rfl]
    | false=>rw[ME qd,qx hq]
  have a6:Pl.de (eR (fields r) 6)=r.n:=by
    rw[v6]
    by_cases h0:r.n=0
    · simp[h0,nz]
    · rw[MC (by simpa using h0)];exact lC (z:=6) qo qo qo qo
  unfold eT
  rw[a1,a2.1,a2.2,a3,a4,v5,w5,a6]
end Re
namespace Re
variable {n:Nat}
theorem Up.up {l:List (Int × ByteArray)}{t u:Int}{m:Nat}(h:Up l t n)(ht:t<=u)(hm:n<=m):Up l u m:=⟨h.1,λx a=>Oa (h.2.1 x a) ht,MS h.2.2 hm⟩
theorem Up.snoc {l:List (Int × ByteArray)}{t:Int}{m:Nat}{s:ByteArray}(h:Up l t n)(h1:1<=t)(ht:t<=255)(hs:s.size<=m)(hm:m<=65535):Up (l++[(t,s)]) t (n+3+m):=by
 obtain⟨c,b,d⟩:=h;refine⟨m7 l 1 (t,s) c b h1 h1 ht (by simp only;omega),?_,?_⟩
 ·intro x a
  rcases Na.1 a with a | a
  ·exact b x a
  ·simp at a;subst a;exact Ng _
 ·have e : Pl.encs (l++[(t,s)])=Pl.encs l++Pl.jH (t,s) := by simp[Pl.encs]
  have:=Pl.iQ (t,s);rw[e,MW];simp only at this;omega
theorem IT {l:List (Int × ByteArray)} (h:Up l 5 n) (es:List eA) (hs:∀ x∈es,(ig x).size<=45):Up (l++ef es) 5 (n+es.length*48):=by
 induction es using yf with
 | h0=>simpa [ef]using h
 | h1 es x ih =>
  have e:ef (es++[x])=ef es++[(5,ig x)]:=by simp[ef]
  have h1:=Up.snoc (ih λy hy=>hs y (by simp[hy])) (by omega) (by omega) (hs x (by simp)) (by omega);rw[e,<-Nq];exact Up.up h1 (Ng _) (by simp only[List.length_append,List.length_cons,List.length_nil];omega)
theorem Ij (k l s t):(At.db k l s t).size<=32:=by
 unfold At.db;split
 ·have a := fj k 1
  have b:=fj l 1;have c:=fj s 4;have d:=fj t 6;rw[Nv,Nv,Nv];omega
 ·exact MV _
theorem Le (r:gw):Up (f1 r) 1 11:=by
 have h:=fj r.e 2;unfold f1 opt;split
 ·refine⟨?_,?_,?_⟩
  ·have : Pl.iH 1 (1,Pl.cW r.e 2)=0 := by unfold Pl.iH;simp only;rw[ME qo,ME qo,ME qo]
   simp[Pl.dd,this]
  ·intro x a;simp at a;subst a;simp
  ·have := Pl.iQ (1,Pl.cW r.e 2)
   simp only at this;simp only[Pl.encs,List.flatMap_cons,List.flatMap_nil,List.append_nil];omega
 ·exact⟨rfl,(λx a=>by cases a),MV _⟩
variable {r:gw}
theorem K6 (hd:r.data.size<=512):Up (f4 r) 4 700:=by
 have a:=(Le r).opt (b:=vG r.no r.gen) (u:=2) (s:=ek r.no r.gen) qo qo qo (oH _ _) qo;have c:=a.opt (b:=JC r.k r.l r.s r.t) (u:=3) (s:=At.db r.k r.l r.s r.t) qo qo qo (Ij _ _ _ _) qo;have d:=c.opt (b:=Bf r.data) (u:=4) (s:=r.data) qo qo qo hd qo;exact Up.up d (Ng _) qo
theorem CR {s:ByteArray}(h:Nm.ok s):s.size<=32:=h.2.1
theorem jE (h:dN r):Up (fields r) 6 4000:=by
  obtain⟨he,hh,ha,hd,⟨hl,hx⟩,hn⟩:=h
  have hm:=ow hx (Ng 0)
  have a5:=IT (Up.up (K6 hd) (u:=5) qo qn) r.cE (λx hx=>by
    rw[sK (hm x hx).1 (hm x hx).2.2]
    have:=CR (hm x hx).2.1
    omega)
  have a6:=a5.opt (b:=r.n != 0) (u:=6) (s:=Pl.cW r.n 6) qo qo qo (fj _ _) qo
  exact Up.up a6 (Ng _) qo
def pQ (L:List UInt8):Bool:=decide (Pl.dX L=0)&&right (eT (Pl.dA L))&&decide (Pl.encs (fields (eT (Pl.dA L)))=L)
def mU (L:List UInt8):gw:=if pQ L then eT (Pl.dA L) else zero
def fZ (L:List UInt8):Int:=if pQ L then 0 else 4
theorem back (h:right r=true):mU (Pl.encs (fields r))=r/\fZ (Pl.encs (fields r))=0/\(Pl.encs (fields r)).length<=4000:=by
 have a:=cG.1 h;have b:=jE a;obtain⟨d,f⟩:=Pl.Ax (fields r) b.1;have c:pQ (Pl.encs (fields r))=true:=by
  unfold pQ;rw[d,f,nS a,h];simp
 refine⟨?_,?_,b.2.2⟩
 ·unfold mU;rw[MC c,d,nS a]
 ·unfold fZ;rw[MC c]
variable {L:List UInt8}
theorem JO (h:fZ L=0):right (mU L)=true/\Pl.encs (fields (mU L))=L:=by
 unfold fZ at h;split at h
 ·rename_i hc
  unfold mU;rw[MC hc];unfold pQ at hc;simp only[Bool.and_eq_true,decide_eq_true_eq]at hc;exact⟨hc.1.2,hc.2⟩
 ·cases h
theorem CV (h:fZ L≠0):mU L=zero/\fZ L=4:=by
 unfold fZ at h;unfold mU fZ;split at h
 ·exact absurd rfl h
 ·rename_i hc
  simp[hc]
theorem DP {s:ByteArray}(h0:Pl.dX s.data.toList=0)(h1:dd (eT (Pl.dA s.data.toList))=0)(h2:db (eT (Pl.dA s.data.toList))=s):mU s.data.toList=eT (Pl.dA s.data.toList)/\fZ s.data.toList=0:=by
 have a:right (eT (Pl.dA s.data.toList))=true:=by
  unfold dd at h1;split at h1
  ·assumption
  ·cases h1
 have c:Pl.encs (fields (eT (Pl.dA s.data.toList)))=s.data.toList:=by
  unfold db at h2;rw[MC a]at h2;rw[<-Pl.kb (Pl.encs (fields (eT (Pl.dA s.data.toList)))),h2]
 have b:pQ s.data.toList=true:=by
  unfold pQ;rw[h0,a,c];simp
 unfold mU fZ;rw[MC b,MC b];exact⟨rfl,rfl⟩
theorem uC {s:ByteArray}(h:Pl.dX s.data.toList≠0\/dd (eT (Pl.dA s.data.toList))≠0\/db (eT (Pl.dA s.data.toList))≠s):mU s.data.toList=zero/\fZ s.data.toList=4:=by
 have d:pQ s.data.toList=false:=by
  rw[ON];intro d;unfold pQ at d;simp only[Bool.and_eq_true,decide_eq_true_eq]at d;obtain⟨⟨a,b⟩,c⟩:=d;rcases h with h | h | h
  ·exact h a
  ·exact h (by unfold dd;rw[MC b])
  ·refine h ?_
   unfold db;rw[MC b,c,Pl.gk]
 unfold mU fZ;rw[d];exact⟨rfl,rfl⟩
end Re
end Go.Proofs.YtiifhfmekbhlnaaGreat.Ks.Rs
namespace Go.Proofs.YtiifhfmekbhlnaaGreat
open It RowKit
namespace Sh
abbrev nb (n z:Int):ByteArray:=Ks.Pl.cW n z
abbrev F:=Int × ByteArray
def head (x:cL):ByteArray:=nb x.gen 6++Ks.Rs.At.db x.kind x.cH x.size x.cF++nb x.next 6
def LW (r:Int × ByteArray):F:=(2,nb r.1 4++r.2)
def Mi (y:ByteArray × Int × Int × Int):F:=(3,nb y.2.1 6++Ks.Ak.ek y.2.2.1 y.2.2.2++y.1)
def fI (x:cL):List F:=(1,head x)::(x.runs.map LW++x.cE.map Mi)
def Md (x:cL):ByteArray:=Ks.Pl.db (fI x)
def Mj (x:cL):F:=(2,Md x)
def Mm (o:Os.dP):F:=(3,nb o.1 1++nb o.2.1 6++Ks.Ak.ek o.2.2.1 o.2.2.2)
def Mn (s:Es.fB):F:=(4,nb s.1 6++nb s.2.1 6++s.2.2)
def fS (L:List cL) (O:List Os.dP) (Z:List Es.fB) (dn:Int):List F:=(1,nb dn 6)::(L.map Mj++O.map Mm++Z.map Mn)
def oX (x:Es.fB):Bool:=decide (Ks.Rs.Re.fZ x.2.2.data.toList≠0)
noncomputable def whole (L:List cL) (O:List Os.dP) (Z:List Es.fB) (dn:Int):Bool:=Nf.right L O dn&&(Es.Se.ok Z && !Z.any oX)
noncomputable def MB (L:List cL) (O:List Os.dP) (Z:List Es.fB) (dn:Int):ByteArray:=if whole L O Z dn=true then Ks.Pl.db (fS L O Z dn) else ⟨#[]⟩
noncomputable def Mw (L:List cL) (O:List Os.dP) (Z:List Es.fB) (dn:Int):Int:=if whole L O Z dn=true then Ks.Pl.dd 1 (fS L O Z dn) else 4
def tk (n:Nat) (s:ByteArray):ByteArray:=s.extract 0 (min n s.size)
def dr (n:Nat) (s:ByteArray):ByteArray:=s.extract (min n s.size) s.size
def nm (n:Nat) (s:ByteArray):Int:=Ks.Pl.de (tk n s)
def LU (s:ByteArray):Int × Int:=(nm 1 s,nm 6 (dr 1 s))
def Mv (s:ByteArray):Os.dP:=(nm 1 s,nm 6 (dr 1 s),(LU (dr 6 (dr 1 s))).1,(LU (dr 6 (dr 1 s))).2)
def Mo (s:ByteArray):Es.fB:=(nm 6 s,nm 6 (dr 6 s),dr 6 (dr 6 s))
def Mp (s:ByteArray):Int × ByteArray:=(nm 4 s,dr 4 s)
def Km (s:ByteArray):ByteArray × Int × Int × Int:=(dr 6 (dr 1 (dr 6 s)),nm 6 s,(LU (dr 6 s)).1,(LU (dr 6 s)).2)
def LQ (s:ByteArray):Int × Int × Int × Int:=Ks.Rs.Re.ua (tk 12 s)
def Mq (x:cL) (f:F):cL :=
 if f.1=1 then { x with gen:=nm 6 f.2,kind:=(LQ (dr 6 f.2)).1,cH:=(LQ (dr 6 f.2)).2.1,size:=(LQ (dr 6 f.2)).2.2.1,cF:=(LQ (dr 6 f.2)).2.2.2,next:=nm 6 (dr 12 (dr 6 f.2)) }
 else if f.1=2 then { x with runs:=x.runs++[Mp f.2] } else if f.1=3 then { x with cE:=x.cE++[Km f.2] } else x
def My (s:ByteArray):cL:=(Ks.Pl.dA s.data.toList).foldl Mq gU
structure iF where
 L:List cL
 O:List Os.dP
 Z:List Es.fB
 dn:Int
def EN:iF:=⟨[],[],[],0⟩
def Mx (x:iF) (f:F):iF :=
 if f.1=1 then { x with dn:=nm 6 f.2 } else if f.1=2 then { x with L:=x.L++[My f.2] } else if f.1=3 then { x with O:=x.O++[Mv f.2] } else if f.1=4 then { x with Z:=x.Z++[Mo f.2] } else x
def MA (s:ByteArray):iF:=(Ks.Pl.dA s.data.toList).foldl Mx EN
noncomputable def Mr (x:iF) (b:ByteArray):Bool:=decide (Mw x.L x.O x.Z x.dn=0)&&decide (MB x.L x.O x.Z x.dn=b)
noncomputable def fZ (b:ByteArray):Int:=if Mr (MA b) b=true then 0 else 4
def pt (s:ByteArray) (a z:Nat):Int:=if s.size<a+z then 0 else Ks.Pl.de (s.extract a (a+z))
def rs (s:ByteArray) (a:Nat):ByteArray:=if s.size<a then ⟨#[]⟩ else s.extract a s.size
def qZ (s:ByteArray):Es.fB:=(pt s 0 6,pt s 6 6,rs s 12)
end Sh
end Go.Proofs.YtiifhfmekbhlnaaGreat
namespace Go.Proofs.YtiifhfmekbhlnaaGreat.Es
open RowKit
namespace Se
theorem tX {l:List fB}(hs:gG l){c:Int}{y:fB}:gu l c=some y ↔ y∈l/\y.1=c:=by
 constructor
 ·exact jf
 ·rintro ⟨h,rfl⟩
  exact IW hs h
theorem mS {l:List fB}{c r:Int}(h:fu l c r=0):ok l=true/\Cl c/\Rq r:=by
 rcases tH l c r with⟨_,_,a,b,d⟩ | ⟨a,_⟩ | ⟨a,b⟩
 ·exact⟨a,b,d⟩
 ·omega
 ·omega
theorem oq {l:List fB}{c r:Int}(h:ok l=true)(hc:Cl c)(hr:Rq r):fu l c r=0:=by
 unfold fu jx;rw[h];simp[hc,hr]
def mT (l:List fB) (x:fB):List fB:=l.filter (λy=>decide (y.1<x.1))++[x]++l.filter (λy=>decide (x.1<y.1))
theorem put_eq {l:List fB}{x:fB}(h:dM l x.1 x.2.1 x.2.2=0):put l x.1 x.2.1 x.2.2=mT l x:=MC h
theorem qD {l:List fB}{x y:fB}:y∈mT l x ↔ y=x\/(y∈l/\y.1≠x.1):=by
 unfold mT;simp only[List.mem_append,List.mem_filter,List.mem_singleton,decide_eq_true_iff];constructor
 ·rintro ((⟨a,b⟩ | h) | ⟨a,b⟩)
  ·exact .inr ⟨a,qo⟩
  ·exact .inl h
  ·exact .inr ⟨a,qo⟩
 ·rintro (h | ⟨a,b⟩)
  ·exact .inl (.inr h)
  ·rcases Int.lt_or_gt_of_ne b with h | h
   ·exact .inl (.inl ⟨a,h⟩)
   ·exact .inr ⟨a,h⟩
theorem sx {l:List fB}{x:fB}(hs:gG l):gG (mT l x):=by
 unfold mT gG;rw[Nq,O7];refine⟨hs.filter _,?_,?_⟩
 ·rw[List.singleton_append,N9]
  exact⟨λy g=>by simpa using (NK.1 g).2,hs.filter _⟩
 ·intro a f b c
  have d:a.1<x.1:=by simpa using (NK.1 f).2
  rcases Na.1 c with c | c
  ·rw[NG.1 c]
   exact d
  ·have h : x.1<b.1 := by simpa using (NK.1 c).2
   omega
theorem Ft {l p:List fB} {x:fB} (h:p.Perm l):(p.filter (λy=>!(y.1==x.1))++[x]).Perm (mT l x):=by
 have a:(p.filter (λy=>!(y.1==x.1))).Perm (l.filter (λy=>!(y.1==x.1))):=h.filter _;have b:(l.filter (λy=>decide (y.1<x.1))++l.filter (λy=>decide (x.1<y.1))).Perm (l.filter (λy=>!(y.1==x.1))):=by
  have c:l.filter (λy=>decide (y.1<x.1))=(l.filter (λy=>!(y.1==x.1))).filter (λy=>decide (y.1<x.1)):=by
   rw[List.filter_filter];refine OA λy _=>?_
   rw[Pk];simp;omega
  have d:l.filter (λy=>decide (x.1<y.1))=(l.filter (λy=>!(y.1==x.1))).filter (λy=>!decide (y.1<x.1)):=by
   rw[List.filter_filter];refine OA λy _=>?_
   rw[Pk];simp;omega
  rw[c,d];exact List.filter_append_perm _ _
 unfold mT;refine (a.append_right [x]).trans ?_;refine (b.symm.append_right [x]).trans ?_;rw[Nq,Nq];exact List.Perm.append_left _ List.perm_append_comm
theorem zE {l:List fB}{x:fB}(h:dM l x.1 x.2.1 x.2.2=0):(mT l x).length<=6/\((mT l x).length=l.length+1\/(mT l x).length=l.length):=by
 obtain⟨f,_,k⟩:=xB h;obtain⟨g,_,_⟩:=mS f;have c:=fh g;have o:=kl g;have i:=Ft (x:=x) (List.Perm.refl l);have a:=i.length_eq;rw[MW,O2]at a
 cases hse:gu l x.1 with
 | none =>
  have d:=(kO f hse).1;rw[k]at d;have j:¬ l.length=6:=λe=>by rw[MC e]at d;omega
  have b:l.filter (λy=>!(y.1==x.1))=l:=Om.2 λy n=>by
   have:=ox hse y n;simpa using this
  rw[b]at a;omega
 | some z =>
  obtain⟨q,m⟩:=jf hse;have b:=yS c hse;have p:=(MN.1 (mw c hse)).1;rw[b,MW,M5,NT]at a;omega
theorem yc {l:List fB}{x:fB}(h:dM l x.1 x.2.1 x.2.2=0):ok (mT l x)=true:=by
 obtain⟨f,a,i⟩:=xB h;obtain⟨c,d,g⟩:=mS f;refine (vp _).2 ⟨(zE h).1,λy b=>?_,sx (fh c)⟩;rcases qD.1 b with rfl | ⟨b,_⟩
 ·exact⟨⟨d.1,d.2⟩,g,a⟩
 ·exact ((vp l).1 c).2.1 y b
theorem Cq {l:List fB}{x:fB}(hs:gG l){c:Int}(hc:c≠x.1):gu (mT l x) c=gu l c:=by
 refine Option.ext λy=>?_
 rw[tX (sx hs),tX hs,qD];constructor
 ·rintro ⟨h | h,a⟩
  ·exact absurd (a.symm.trans (by rw[h])) hc
  ·exact⟨h.1,a⟩
 ·rintro ⟨h,a⟩
  exact⟨.inr ⟨h,by rw[a];exact hc⟩,a⟩
theorem apart {l : List fB}{x : fB}(h : dM l x.1 x.2.1 x.2.2=0){c r : Int}(hc : c≠x.1)(hcl : Cl c)(hrq : Rq r) :
  fu l c r=0/\fu (mT l x) c r=0/\told (mT l x) c r=told l c r/\(fp (mT l x) c r=fp l c r\/(fp l c r=1/\fp (mT l x) c r=4/\(mT l x).length=6)):=by
 obtain⟨g,i,m⟩:=xB h;obtain⟨f,_,_⟩:=mS g;have b:=oq f hcl hrq;have d:=oq (yc h) hcl hrq;have a:=Cq (fh f) hc;refine⟨b,d,?_,?_⟩
 ·unfold told
  rw[MC b,MC d,a]
 ·cases hse : gu l c with
  | some z =>
   left;rw[hse]at a;rw[(kJ b hse).1,(kJ d a).1]
  | none =>
   rw[hse]at a;rw[(kO b hse).1,(kO d a).1];have j:=zE h;have k:=kl f
   by_cases e:(mT l x).length=6
   ·by_cases e2 : l.length=6
    ·left
     rw[MC e,MC e2]
    ·right
     rw[ME e2,MC e];exact⟨rfl,rfl,e⟩
   ·left
    rw[ME e,ME qo]
end Se
end Go.Proofs.YtiifhfmekbhlnaaGreat.Es
namespace Go.Proofs.YtiifhfmekbhlnaaGreat.Ks
open ChangeShapes WideShapes ChangeAt RowKit Deep
open Ak
theorem ki (w):Nonempty (jy w):=⟨⟨w,jb _ _⟩⟩
theorem fK {P:Program}{id:Nat}{Q:Exit->Act->World->Prop}{a:Act}{w:World}{l:List Oper}(hm:P.follows .mixedOrders=true)(hB:Region.lexB .any l.toArray=true)(h:wpQuiet P l.toArray (λw'=>∃ p:jy w,w'=p.out) (λa'=>∀ w',(∃ p:jy w,w'=p.out)->Q .normal a' w') l a):(Code.region id l.toArray true).wp P Q a w :=
 wp_region_quiet (C:=λw'=>∃ p:jy w,w'=p.out) hm hB ⟨⟨w.drew,⟨rfl,rfl,rfl,qn,λ_ _ _=>rfl⟩⟩,rfl⟩ (by simpa using h)
theorem fN {P:Program}{f:FuncId}{args:Array Value}{w W:World}{v:Value}(hg:w.grownBy W none)(h:Calls P f args W λe w'=>e=.returned v/\Bw W w'):Calls P f args W λe w''=>e=.returned v/\∃ p:jy w,w''=p.out :=
 h.mono λ_ w' ⟨he,hw⟩=>⟨he,⟨w',cQ hg (cP hw none)⟩,rfl⟩
theorem jy.below {w:World}(p:jy w):Bw w p.out:=dR p.grown qn
theorem iU {w:World}{b j:Nat}{v:Value}(h:w.cell? ⟨b,j,none⟩=some v):b<w.1.size:=by
 rcases Ow b w.1.size with a | a
 ·exact a
 ·simp[World.cell?,Array.getElem?_eq_none a]at h
theorem cC {w w':World}{b j:Nat}{v:Value}(h:w.cell? ⟨b,j,none⟩=some v)(hb:Bw w w'):w'.cell? ⟨b,j,none⟩=some v:=(hb.cell (p:=⟨b,j,none⟩) (iU h)).trans h
theorem jy.cell {w:World}(p:jy w){b j:Nat}{v:Value}(h:w.cell? ⟨b,j,none⟩=some v):p.out.cell? ⟨b,j,none⟩=some v:=cC h p.below
theorem dC {w:World}{b:Nat}{o:Obj}(h:w.1[b]?=some o):b<w.1.size:=by
 rcases Ow b w.1.size with a | a
 ·exact a
 ·rw[NM a]at h;cases h
theorem dI {w w':World}{b:Nat}{o:Obj}(h:w.1[b]?=some o)(hb:Bw w w'):w'.1[b]?=some o:=(hb.block b (dC h)).trans h
theorem cU {w:World}{b:Nat}{x y:Int}(h:w.1[b]?=some (BH x y)):w.cell? ⟨b,0,none⟩=some (.int .i64 x)/\w.cell? ⟨b,1,none⟩=some (.int .i64 y):=by
 refine⟨?_,?_⟩ <;> simp[World.cell?,h]
end Go.Proofs.YtiifhfmekbhlnaaGreat.Ks
namespace Go.Proofs.YtiifhfmekbhlnaaGreat
open ChangeShapes WideShapes ChangeAt RowKit Deep It
theorem pI {α:Type}(E:fY α)(S)(w):At E S w (.slice none 0 0) []:=.inl ⟨_,_,rfl,rfl⟩
theorem At.tG {α:Type}{E:fY α}{S:Nat->Prop}{w:World}{v:Value}{l:List α}{z:Nat}{p q:Int}(h:At E S w v l)(hz:w.1[z]?=some (BH p q))(k:Nat)(hk:∀ x,∃ s,(E.cells x)[k]?=some (.string s)):At E (λb=>b≠z) w v l:=by
 rcases h with h | ⟨b,a,d,rfl,r,j,f,m,n,g⟩
 ·exact .inl h
 ·refine .inr ⟨b,a,d,rfl,?_,j,f,m,n, g⟩
  rintro rfl;obtain⟨s,o⟩:=hk l[0];have c:=g _ _ (E.lD l 0 l[0] (MF f) k _ o);generalize a+(0*E.sz+k)=i at c;simp only[World.cell?,hz]at c;rcases i with _ | _ | i <;> simp at c
theorem Good.tG {S:Nat->Prop}{w:World}{x:Rw}{z:Nat}{p q:Int}(h:Good S w x) (hz:w.heap[z]?=some (BH p q)):Good (λb=>b≠z) w x :=
 ⟨h.1.tG hz 1 λy=>⟨y.2,rfl⟩,h.2.1.tG hz 0 λy=>⟨y.1,rfl⟩,h.2.2⟩
def Sp.nJ (no:Int) (e:Sp.En):Bool:=e.2.2.1==no
def Sp.rh (L:List cL) (no:Int):Nat:=(Sp.dk L).countP (Sp.nJ no)
namespace Sp
def Mb (L:List cL):Nat->Nat->Nat->Prop
 | 0,a,c=>a=c
 | d+1,a,c=>∃ p,Mb L d a p/\p<L.length/\∃ e∈dy L p,e.2.2.1=(c:Int)
def Sound (L:List cL) (a:Nat) (f:Nat->Bool):Prop:=∀ c,c<L.length->f c=true->∃ d,Mb L d a c
def Full (L:List cL) (a r:Nat) (f:Nat->Bool):Prop:=∀ d,d<=r->∀ c,c<L.length->Mb L d a c->f c=true
def F4 (f:Nat->Bool) (c:Nat) (i:Nat):Bool:=if i=c then true else f i
theorem rS {f:Nat->Bool}{c i:Nat}(h:f i=true):F4 f c i=true:=by unfold F4;split;rfl;exact h
end Sp
end Go.Proofs.YtiifhfmekbhlnaaGreat
namespace Go.Proofs.YtiifhfmekbhlnaaGreat
open It
namespace Sp
def num (L:List cL) (i:Nat) (x:cL):Prop:=(x.kind=1->(rh L i:Int)=x.cH)/\(x.kind=2->0<i->(rh L i:Int)=1)/\(i=0->(rh L i:Int)=0)
def Mf (L:List cL) (i:Nat) (x:cL):Prop:=fold x/\(x.kind=2->∀ e∈x.cE,names L e.2.2.1 e.2.2.2=true)/\num L i x
def Ae (L:List cL):Prop:=∀ i x,L[i]?=some x->Mf L i x
theorem xE {L:List cL}(hn:∀ e∈dk L,names L e.2.2.1 e.2.2.2=true){i:Nat}{x:cL}(hx:L[i]?=some x):rh L i=Fj L ((i:Int),x.gen):=by
 unfold rh Fj;refine List.countP_congr λe f=>?_
 obtain⟨j,y,b,c,d,_⟩:=dY.1 (hn e f);simp only[nJ,beq_iff_eq];constructor
 ·intro a;have:j=i:=qo
  subst this;rw[hx]at b
  cases b
  exact Prod.ext a d.symm
 ·intro a;rw[a]
theorem kH {L:List cL}(h:It.right L=true){x:cL}(hx:L[0]?=some x):x.kind=2:=by
 have a:=(It.cG.1 h).2.1;unfold ql at a
 cases L with
 | nil=>cases a
 | cons y l =>
  simp at hx;subst hx;simp at a;exact a
theorem kA {L:List cL}(h:cZ L=true):Ae L:=by
 obtain⟨d,o,m,_⟩:=ei.1 h;have k:∀ e∈dk L,names L e.2.2.1 e.2.2.2=true:=λe c=>(jN d m c).1
 intro i x a;have b:=(oe d).1 m ((i:Int),x.gen);rw[<-xE k a,oE d]at b;have l:oO L (i:Int)=x.cH:=by
  unfold oO;rw[show ((i:Int)).toNat=i by omega,a,NY]
 have g:i=0->x.gen=rV L:=λf=>by
  subst f;unfold rV;rw[a,NY]
 refine⟨o x (MG a),λj e c=>k e (Ou.2 ⟨x,MG a,c⟩),λj=>?_,λj f=>?_,λf=>?_⟩
 ·rw[ME (λc=>by
   have:=Ox Prod.fst c;have n:i=0:=qo
   subst n;have:=kH d a;omega),MC (dY.2 ⟨i,x,a,rfl,rfl,qo⟩),l]at b
  exact b
 ·rw[ME (λc=>by
   have:=Ox Prod.fst c;omega),MC (dY.2 ⟨i,x,a,rfl,rfl,qo⟩),l,rr d a j]at b
  exact b
 ·rw[MC (by rw[g f,f];rfl)]at b;exact b
theorem kV {L:List cL}(h:It.right L=true)(ho:Ae L):∀ e∈dk L,names L e.2.2.1 e.2.2.2=true:=λe c=>by
 obtain⟨p,x,b,a⟩:=CZ c;exact (ho p x b).2.1 (nt h b a) e a
theorem zj {L:List cL}(ho:Ae L):oV L:=λx b=>by
 obtain⟨p,a⟩:=M1.1 b;exact (ho p x a).1
theorem CY {L:List cL}(h:It.right L=true)(ho:Ae L):oM L=true:=by
 have l:=kV h ho;refine (oe h).2 λg=>?_
 rw[oE h];have m:=ew h;have c:L[0]?=some L[0]:=MF (by omega)
 by_cases h0:g=(0,rV L)
 ·rw[MC h0];have d:=(ho 0 _ c).2.2.2.2 rfl;rw[xE l c]at d;have e:rV L=L[0].gen:=by unfold rV;rw[c,NY]
  rw[h0,e];exact d
 ·rw[ME h0]
  by_cases d:names L g.1 g.2=true
  ·rw[MC d];obtain⟨i,x,f,j,q,r⟩:=dY.1 d;have n:g=((i:Int),x.gen):=Prod.ext j q.symm;have o:oO L g.1=x.cH:=by
    unfold oO;rw[j,show ((i:Int)).toNat=i by omega,f,NY]
   rw[o,n,<-xE l f];have b:=(ho i x f).2.2;have a:=(It.cG.1 h).2.2 x (MG f);unfold one at a;simp only[Bool.and_eq_true]at a
   by_cases hk2:x.kind=2
   ·rw[rr h f hk2];refine b.2.1 hk2 ?_
    by_cases hi:i=0
    ·exfalso;subst hi;refine h0 (n.trans ?_);unfold rV;rw[f,NY];rfl
    ·omega
   ·refine b.1 ?_;rcases At.cG.1 a.2.1 with⟨k,_⟩ | ⟨_,_,⟨k,_⟩ | ⟨k,_⟩⟩
    ·exact (r k).elim
    ·exact k
    ·exact (hk2 k).elim
  ·rw[ME d];have:Fj L g=0:=Ph.2 λe s t=>d (by
    have p:e.2.2=g:=by simpa using t
    rw[<-p];exact l e s)
   rw[this];rfl
end Sp
theorem Sp.Hy {L:List cL}(hs:Sp.cZ L=true){no c:Nat}(hdn:Sp.eu L no=true):Sp.l7 L no c=true ↔ ∃ d,Sp.kj L d no c:=by
 obtain⟨i,-,-,j⟩:=Sp.ei.1 hs;have a:=Sp.l4 hs;have h:=(Sp.ew i).2;unfold Sp.l7;rw[show ((no:Int)).toNat=no by omega,List.any_eq_true];constructor
 ·rintro ⟨z,f,g⟩
  obtain⟨d,b⟩:=Sp.ke a _ _ _ z f;refine⟨d,?_⟩;have:z.1=c:=by have:=beq_iff_eq.1 g;omega
  rwa [this]at b
 ·rintro ⟨d,b⟩
  obtain⟨m,k⟩:=(Sp.mQ a h).1 j no hdn;have:=Sp.B2 a (Sp.ma k d c b);obtain⟨z,f,g⟩:=Sp.vy a 24 no ⟨#[]⟩ d c b qo;exact⟨z,f,by rw[g];simp⟩
end Go.Proofs.YtiifhfmekbhlnaaGreat
namespace Go.Proofs.YtiifhfmekbhlnaaGreat
namespace Fo
theorem AZ {s:ByteArray}{x:eA}:called s x=false ↔ x.1≠s:=by
 rw[<-Bool.not_eq_true,Bi]
theorem FW {next next':Int}{x:eA}(h:Me next x)(hn:next<=next'):Me next' x:=⟨h.1,⟨h.2.1.1,by have:=h.2.1.2;omega⟩,h.2.2⟩
theorem DF {l:List eA}{next:Int}{s:ByteArray}{no gen:Int}(h:fE l next)(hs:Nm.ok s)(ho:Ho no gen)(ha:ri (called s) l = -1)(hn:next<1099511627776):fE (l++[(s,next+1,no,gen)]) (next+1):=by
 obtain⟨p,j,n,m⟩:=cG.1 h;have g:∀ x∈l,x.1≠s:=by
  rcases wZ (called s) l with⟨-,d⟩ | ⟨k,x,o,-,-,-⟩
  ·exact λx c=>AZ.1 (d x c)
  ·rw[ha]at o;omega
 refine cG.2 ⟨⟨qo,qo⟩,λx c=>?_,?_,?_⟩
 ·rcases Na.1 c with c | c
  ·exact FW (j x c) qo
  ·simp at c;subst c;exact⟨hs,⟨qt,qs⟩,ho⟩
 ·rw[O7];refine⟨n,qs,λa ha b f=>?_⟩;simp at f;subst f;have:=(j a ha).2.1.2;simp;omega
 ·unfold apart at m |-;rw[NO,List.nodup_append];refine⟨m,qs,λa i b f=>?_⟩;simp at f;subst f;obtain⟨x,c,rfl⟩:=NI.1 i;exact g x c
theorem sr {l:List eA}{next:Int}(h:fE l next)(k):fE (l.eraseIdx k) next:=by
 obtain⟨c,d,f,b⟩:=cG.1 h;have a:=List.eraseIdx_sublist l k;refine cG.2 ⟨c,λx g=>d x (a.mem g),f.sublist a,?_⟩;unfold apart at b |-;exact (a.map _).nodup b
end Fo
end Go.Proofs.YtiifhfmekbhlnaaGreat
