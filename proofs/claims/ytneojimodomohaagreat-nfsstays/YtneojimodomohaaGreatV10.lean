/- Rea, FNamed, FFind, FFindB, FConcat, as one. -/
import Derived.Lib.AppendZeros
import Derived.Test.YtneojimodomohaaGreatV9
set_option maxHeartbeats 8000000
set_option maxRecDepth 100000
namespace Go.Proofs.YtneojimodomohaaGreat
section
open Go.ChangeShapes Go.WideShapes Go.ChangeAt Go.RowKit Go.Deep Go.Shelf It
attribute [local go_sem] Oper.semAt_some
theorem kp_set {V:World} {Bx:Nat} {t:TypeId} {u u':Value} (h:Boxed V Bx t u) (hu':∀ k,u'.ownBlock≠some k):Kp Bx V (V.setCell ⟨Bx,0,none⟩ u'):=by
 have hg:=grownBy_setCell' V Bx u';have hs:(V.setCell ⟨Bx,0,none⟩ u').cell? ⟨Bx,0,none⟩ = some u':=(h.set u').cell;refine ⟨hg.os,hg.tape,hg.output,hg.size,fun _=>⟨u',hs,fun k e=>absurd e (hu' k)⟩,fun k hk hn=>hg.block k hk (fun e=>hn (.inl (by cases e;rfl))),fun k _ hm=>?_,fun k o hk ho=>(KeepsOthers.setCell V _ _).same k o hk ho⟩;rcases hm with rfl | ⟨v,hv,he⟩
 ·exact .inl rfl
 ·rw [hs] at hv
  cases hv
  exact absurd he (hu' k)
theorem reached_any {S:Nat->Prop} (v:Value) (L:List Rw) (w:World) (hv:TabAt S w v L) (hd:Sp.deep (pl L) 24 0) (hL:L.length<=24) (hlen:(Sp.walk (pl L) 24 0 ⟨#[]⟩).length<=24) :
  Calls Tryz.prog 71 #[v] w fun e w'=>e = .returned (.bool (((Sp.walk (pl L) 24 0 ⟨#[]⟩).length:Int) - ((pl L).countP (fun x=>x.kind == 2):Nat) == 0))/\Bw w w':=by
 obtain ⟨ao,cap,rfl,-,hx⟩:=hv.open;obtain ⟨W0,hW0⟩:=qF (w.alloc (.cells #[.int .i64 0] 3));have hg0:w.grownBy W0 none:=by rw [hW0];exact World.grownBy_alloc _ _ none
 have hs0:W0.heap.size = w.heap.size + 1:=by rw [hW0];simp
 have hR:Boxed W0 w.heap.size 3 (.int .i64 0):=by rw [hW0];exact Boxed.new w 3 _
 have hb0:HasBox w.heap.size W0:=⟨_,hR.cell,fun k e=>by cases e⟩;have hmine:∀ k,k≠w.heap.size->¬ Mine w.heap.size W0 k:=fun k hk h=>by
  rcases h with h | ⟨u,hu,he⟩
  ·exact hk h
  ·rw [hR.cell] at hu
   cases hu
   cases he
 obtain ⟨hseq,hg3,hs3,hk3,hb3⟩:=folders_seq (n₀:=w.heap.size) (Bx:=w.heap.size) (f:=24) (no:=0) (path:=⟨#[]⟩) (V2:=W0) hd (by decide) (by omega) (by omega) (tab_up (tab_low hv) hg0) hb0 (fun b hb=>hmine b (by omega));unfold box3 at hseq hg3 hs3 hk3 hb3;obtain ⟨V3,hV3⟩:=qF (((W0.alloc (.cells #[.slice ao L.length cap] 22)).alloc (.cells #[.int .i64 ((0:Nat):Int)] 3)).alloc (.cells #[.string ⟨#[]⟩] 9));rw [← hV3] at hseq hg3 hs3 hk3 hb3;have HSEQ:Hid (SeqOwn Tryz.prog 181 #[PT (W0.heap.size + 1),PT (W0.heap.size + 1 + 1),PT W0.heap.size] encF w.heap.size (Sp.walk (pl L) 24 0 ⟨#[]⟩) V3):=hseq;have HB3:Hid (Bw w V3):=below_none (grown_trans hg0 hg3) (Nat.le_refl _);have HR3:Hid (Boxed V3 w.heap.size 3 (.int .i64 0)):=hR.kept hg3 (by simp);have HS3:Hid (w.heap.size < V3.heap.size):=by show w.heap.size < V3.heap.size;omega
 obtain ⟨xs,hxs⟩:=qE (Sp.walk (pl L) 24 0 ⟨#[]⟩);rw [hxs] at HSEQ hlen ⊢;obtain ⟨r,hr⟩:=qE ((xs.length:Int) - ((pl L).countP (fun x=>x.kind == 2):Nat) == 0);rw [hr];have HRV:Hid (((xs.length:Int) - ((pl L).countP (fun x=>x.kind == 2):Nat) == 0) = r):=hr;have HX:Hid (∀ i x,L[i]? = some x->(∃ b off,ao = some ⟨b,off,none⟩/\b < w.heap.size/\eight w b (off + i * 8) x)/\Good S w x):=hx;obtain ⟨n,hn⟩:=qE L.length;have HN:Hid (L.length = n):=hn;rw [hn,show ((0:Nat):Int) = 0 from rfl] at hV3;rw [hn] at hL ⊢;clear hv hd hseq hg3 hk3 hR hb0 hmine hg0 hxs hs0 hs3 hr hx hn;refine (callsIn_wide (n:=9)).1 ?_;refine callsIn_of_wp_marks Tryz.func71 rfl trivial ?_;simp only [Tryz.ntmps71,List.size_toArray,List.length_cons,List.length_nil,Nat.reduceAdd,Nat.reduceSub,Array.replicate_succ,Array.replicate_zero,List.push_toArray,List.append_toArray,List.nil_append,List.cons_append]
 gi_wp2
 rw [← hW0];refine ⟨trivial,?_⟩;refine CallsIn.mono (callsIn_wide.2 (folders_any _ _ _ _ ⟨_,_,_,rfl⟩)) ?_;rintro e' w' ⟨rfl,rfl⟩;rw [← hV3];clear hV3 hW0
 gi_wp2
 refine range_law (gf:=181) (lb:=#[PT (W0.heap.size + 1),PT (W0.heap.size + 1 + 1),PT W0.heap.size]) (encs:=encF) (Bx:=w.heap.size) (xs:=xs) rfl (enters_of Tryz.func181 (by kernel_rfl) rfl) hb3 HSEQ.out (fun _=>rfl)
  (fun pre V=>Boxed V w.heap.size 3 (.int .i64 (pre.length:Int))/\Kp w.heap.size V3 V/\Bw w V) (fun _ _=>False)
  (fun t A B row hs hg hr=>⟨(boxed_own w.heap.size 3 (fun t:List (Nat × ByteArray)=>.int .i64 (t.length:Int))).from _ t A B row hs.1 hg hr,kp_own (β:=Unit) hb3 (Nat.le_refl _) () A B row hs.2.1 hg hr,ownFrom_below (β:=Unit) (Nat.le_refl _) (Nat.le_of_lt HS3.out) () A B row hs.2.2 hg hr⟩)
  (fun t A B row hs hg hr=>hs)
  ⟨HR3.out,Kp.refl _ _,HB3.out⟩
  (fun z=>{ tmps:=#[.slice ao n cap,undef,.bool false,PT w.heap.size,undef,undef,.slice ao n cap,.func (.func 181) #[] #[PT (W0.heap.size + 1),PT (W0.heap.size + 1 + 1),PT W0.heap.size],.int .i64 (z.1:Int),.string z.2,undef,undef,undef,undef,undef,undef,undef,undef,undef,undef,undef,undef,undef,undef,undef],defers:=[] }) ?assign ?body ?done ?stop
 case assign =>
  intro l' m' z V4 K hK;unfold encF
  gi_wp2
  simp;exact hK
 case body =>
  rintro l' m' pre z V4 hl' hpz ⟨hR4,hK4,hB4⟩;have hpl:pre.length < 24:=by
   have:=hpz.length_le;simp only [List.length_append,List.length_cons,List.length_nil] at this;omega
  have cr:=hR4.cell;have fr:=hR4.frozen;have HR4:Hid (Boxed V4 w.heap.size 3 (.int .i64 (pre.length:Int))):=hR4;have HK4:Hid (Kp w.heap.size V3 V4):=hK4;have HB4:Hid (Bw w V4):=hB4;have HLN:Hid ((pre ++ [z]).length = pre.length + 1):=by show (pre ++ [z]).length = pre.length + 1;simp
  obtain ⟨pl',hpl'⟩:=qE pre.length;rw [hpl'] at cr hpl;have HPL:Hid (pre.length = pl'):=hpl';clear hR4 hK4 hB4 hpz hpl'
  gi_wp2
  have hks:Kp w.heap.size V4 (V4.setCell ⟨w.heap.size,0,none⟩ (.int .i64 ((pl':Int) + 1))):=kp_set HR4.out (by intro k e;cases e);refine ⟨hks,?_,HK4.out.trans hks,HB4.out.setCell (p:=⟨w.heap.size,0,none⟩) (Nat.le_refl _) _⟩;rw [HLN.out,HPL.out];exact HR4.out.set _
 case done =>
  rintro D V5 hD ⟨hR5,hK5,hB5⟩ hdf;have HD5:Hid (V5.heap[D]? = some (.deferred (some []))/\w.heap.size < D):=⟨hdf,Nat.lt_of_lt_of_le HS3.out hD⟩;have HB5:Hid (Bw w V5):=hB5;have HR5:Hid (Boxed V5 w.heap.size 3 (.int .i64 (xs.length:Int))):=hR5;clear hR5 hK5 hB5 hdf hD
  gi_wp2
  gi_loopw [14] (fun i wr=>∃ k:Nat,k<=n/\i = .int .i64 k/\Hid (Boxed wr w.heap.size 3 (.int .i64 ((xs.length:Int) - ((pl (L.take k)).countP (fun x=>x.kind == 2):Nat))))/\Hid (Bw w wr)/\Hid (wr.heap[D]? = some (.deferred (some [])))) (fun i _=>n - (intOf i).toNat)
  case atStart=>exact ⟨0,Nat.zero_le _,rfl,(show Boxed V5 w.heap.size 3 (.int .i64 ((xs.length:Int) - ((pl (L.take 0)).countP (fun x=>x.kind == 2):Nat))) from by simpa using HR5.out),HB5.out,HD5.out.1⟩
  case round =>
   obtain ⟨k,hk,rfl,HRB,HB,HDF⟩:=hrel;have hsz:=HB.out.size;have cr:=HRB.out.cell;have fr:=HRB.out.frozen;have hrl:=HRB.out.lt;have HCB:Hid ((pl (L.take k)).countP (fun x=>x.kind == 2)<=24):=by
    show (pl (L.take k)).countP (fun x=>x.kind == 2)<=24;refine Nat.le_trans List.countP_le_length ?_;simp only [List.length_map,List.length_take];omega
   obtain ⟨q,hq⟩:∃ q:Int,(xs.length:Int) - ((pl (L.take k)).countP (fun x=>x.kind == 2):Nat) = q:=⟨_,rfl⟩;have hqb:-24<=q/\q<=24:=by have:=HCB.out;omega
   rw [hq] at cr HRB;have HQ:Hid ((xs.length:Int) - ((pl (L.take k)).countP (fun x=>x.kind == 2):Nat) = q):=hq;clear hq
   by_cases hlt:k < n
   ·obtain ⟨x,hxk⟩:∃ x,L[k]? = some x:=⟨_,List.getElem?_eq_getElem (by rw [HN.out];exact hlt)⟩;obtain ⟨⟨b,off,rfl,hB,hc⟩,-⟩:=HX.out k x hxk;obtain ⟨c0,c1,c2,c3,c4,c5,c6,c7⟩:=hc.below HB.out hB;have hlt':(k:Int) < (n:Int):=by omega
    have HSU:Hid ((pl (L.take (k + 1))).countP (fun x=>x.kind == 2) = (pl (L.take k)).countP (fun x=>x.kind == 2) + if x.i.kind == 2 then 1 else 0):=by
     show (pl (L.take (k + 1))).countP (fun x=>x.kind == 2) = _;rw [List.take_add_one,hxk];simp [pl,List.countP_append,List.countP_cons]
    obtain ⟨V2,hV2⟩:=qF ((wr.alloc (BIx x)).alloc (BIx x));have hg2:wr.grownBy V2 none:=by rw [hV2];exact grown_trans (World.grownBy_alloc _ _ none) (World.grownBy_alloc _ _ none)
    have HR2:Hid (Boxed V2 w.heap.size 3 (.int .i64 q)):=HRB.out.kept hg2 (by simp);have HB2:Hid (Bw w V2):=HB.out.trans ((below_none hg2 (Nat.le_refl _)).mono hsz);have HD2:Hid (V2.heap[D]? = some (.deferred (some []))):=(hg2.block D (qL HDF.out) (by simp)).trans HDF.out;clear hc hxk cr fr hg2
    by_cases hkd:x.i.kind = 2
    ·have hkb:(x.i.kind == 2) = true:=by simp [hkd]
     have HS2:Hid (((xs.length:Int) - ((pl (L.take (k + 1))).countP (fun x=>x.kind == 2):Nat)) = q - 1):=by
      show (xs.length:Int) - ((pl (L.take (k + 1))).countP (fun x=>x.kind == 2):Nat) = q - 1;have:=HSU.out;rw [hkb] at this;rw [this,← HQ.out];simp;omega
     clear hkd;have cr:=HR2.out.cell;have fr:=HR2.out.frozen
     gi_wp2
     refine ⟨trivial,?_⟩;refine CallsIn.mono (callsIn_wide.2 (isDir_any x _)) ?_;rintro e' w' ⟨rfl,rfl⟩;rw [← hV2,hkb];clear hV2
     gi_wp2
     go_roundw
     case rel=>exact ⟨k + 1,by omega,by go_num,by rw [HS2.out];exact HR2.out.set _,HB2.out.setCell (p:=⟨w.heap.size,0,none⟩) (Nat.le_refl _) _,(KeepsOthers.setCell V2 _ _).same D _ HD2.out rfl⟩
     case measure=>simp [intOf];omega
    ·have hkb:(x.i.kind == 2) = false:=beq_eq_false_iff_ne.2 hkd;have HS2:Hid (((xs.length:Int) - ((pl (L.take (k + 1))).countP (fun x=>x.kind == 2):Nat)) = q):=by
      show (xs.length:Int) - ((pl (L.take (k + 1))).countP (fun x=>x.kind == 2):Nat) = q;have:=HSU.out;rw [hkb] at this;rw [this,← HQ.out];simp
     clear hkd
     gi_wp2
     refine ⟨trivial,?_⟩;refine CallsIn.mono (callsIn_wide.2 (isDir_any x _)) ?_;rintro e' w' ⟨rfl,rfl⟩;rw [← hV2,hkb];clear hV2
     gi_wp2
     go_roundw
     case rel=>exact ⟨k + 1,by omega,by go_num,by rw [HS2.out];exact HR2.out,HB2.out,HD2.out⟩
     case measure=>simp [intOf];omega
   ·obtain rfl:n = k:=by omega
    have HQ2:Hid ((q == 0) = r):=by
     show (q == 0) = r;rw [← HQ.out,List.take_of_length_le (by rw [HN.out];exact Nat.le_refl _)];exact HRV.out
    gi_wp2
    refine ⟨by simp,.inl ⟨_,_,rfl,run_takeDeferred HDF.out,?_⟩⟩;refine ⟨_,results_tmp rfl _ _ _,?_,?_⟩
    ·rw [← HQ2.out];rfl
    ·exact HB.out.grown (grownBy_putObj' _ _ _) hsz (fun k e=>by cases e;have:=HD5.out.2;omega)
 case stop =>
  rintro D pre V5 hD hpre h hdf;exact h.elim
end
section
open Go.ChangeShapes Go.WideShapes Go.ChangeAt Go.RowKit Go.Deep
namespace Fo
def at' (p:Ent->Bool) (l:List Ent):Int:=match l.findIdx? p with | some k=>(k:Int) | none=>-1
theorem at_hit {p:Ent->Bool} {l:List Ent} {k:Nat} {x:Ent} (h:l[k]? = some x) (hp:p x = true) (hb:∀ j y,j < k->l[j]? = some y->p y = false):at' p l = k:=by
 have hk:=(qM h);have:l.findIdx? p = some k:=List.findIdx?_eq_some_iff_getElem.2 ⟨hk,by
  have e:=(List.getElem?_eq_some_iff.1 h).2;rw [e];exact hp,fun j hj=>by
  rw [hb j l[j] hj (List.getElem?_eq_getElem _)];exact Bool.false_ne_true⟩
 unfold at';rw [this]
theorem at_miss {p:Ent->Bool} {l:List Ent} (hb:∀ j y,j < l.length->l[j]? = some y->p y = false):at' p l = -1:=by
 have:l.findIdx? p = none:=List.findIdx?_eq_none_iff.2 fun x hx=>by
  obtain ⟨j,hj⟩:=List.mem_iff_getElem?.1 hx;exact hb j x (qM hj) hj
 unfold at';rw [this]
theorem at_or (p:Ent->Bool) (l:List Ent):(at' p l = -1/\∀ x∈l,p x = false)∨∃ (k:Nat) (x:Ent),at' p l = k/\l[k]? = some x/\p x = true/\∀ j y,j < k->l[j]? = some y->p y = false:=by
 unfold at'
 cases h:l.findIdx? p with
 | none=>exact .inl ⟨rfl,List.findIdx?_eq_none_iff.1 h⟩
 | some k =>
  obtain ⟨hk,h1,h2⟩:=List.findIdx?_eq_some_iff_getElem.1 h;refine .inr ⟨k,l[k],rfl,List.getElem?_eq_getElem hk,h1,fun j y hj hy=>?_⟩;have:=h2 j hj;rw [(List.getElem?_eq_some_iff.1 hy).2] at this;simpa using this
def called (s:ByteArray) (x:Ent):Bool:=x.1.toList == s.toList
def past (c:Int) (x:Ent):Bool:=decide (c < x.2.1)
noncomputable def ask (l:List Ent) (next:Int) (s:ByteArray):Int:=if Fo.err l next = 0 then Nm.err s else 4
theorem ask_wrong {l:List Ent} {next:Int} {s:ByteArray} (h:Fo.err l next = 4):ask l next s = 4:=by unfold ask;rw [if_neg (by rw [h];decide)]
theorem ask_right {l:List Ent} {next:Int} {s:ByteArray} (h:Fo.err l next = 0):ask l next s = Nm.err s:=by unfold ask;rw [if_pos h]
end Fo
theorem frefuse_any (v:Value) (l:List Ent) (next:Int) (s:ByteArray) (w:World) (hv:AtW EE w v l) (hs:∀ x∈l,x.1.size<=maxLen) (hn:s.size<=maxLen) :
  Calls Tryz.prog 210 #[VD v next,.string s] w fun e w'=>e = .returned (.int .i64 (Fo.ask l next s))/\Bw w w':=by
 have HB0:Hid (Bw w (w.alloc (BD v next))):=qG _ _;have HV:Hid _:=hv.up HB0.out;have HS:Hid _:=hs;have HN:Hid _:=hn;clear hv hs hn;rcases Fo.err_or l next with ⟨he,hr⟩ | ⟨he,hr⟩
 ·have HE:Hid _:=he;have HA:Hid (Fo.ask l next s = Nm.err s):=Fo.ask_right he;rw [HA.out];clear he hr;go_enter Tryz.func210,Tryz.ntmps210;go_wp2_with fail;refine (fcheck_any v l next _ HV.out HS.out).mono ?_;rintro e w1 ⟨rfl,hb⟩;rw [HE.out];have HB1:Hid _:=HB0.out.trans (hb.mono (by simp));have hsz:w.heap.size<=w1.heap.size:=HB1.out.size;clear hb;go_wp2_with fail;refine (name_any s _ HN.out).mono ?_;rintro e w2 ⟨rfl,hb⟩;go_wp2;go_ret;exact ⟨rfl,HB1.out.trans (hb.mono hsz)⟩
 ·have HE:Hid _:=he;have HA:Hid (Fo.ask l next s = 4):=Fo.ask_wrong he;rw [HA.out];clear he hr;go_enter Tryz.func210,Tryz.ntmps210;go_wp2_with fail;refine (fcheck_any v l next _ HV.out HS.out).mono ?_;rintro e w1 ⟨rfl,hb⟩;rw [HE.out];go_wp2;go_ret;exact ⟨rfl,HB0.out.trans (hb.mono (by simp))⟩
abbrev VF (f b:Nat):Value:=.func (Fn.func f) #[] #[.pointer (some ⟨b,0,none⟩)]
theorem named_any (s:ByteArray) (w:World):Calls Tryz.prog 211 #[.string s] w fun e w'=>∃ b,e = .returned (VF 214 b)/\b < w'.heap.size/\w'.cell? ⟨b,0,none⟩ = some (.string s)/\Bw w w':=by
 go_enter Tryz.func211,Tryz.ntmps211;go_wp2;go_ret;have hh:=heap_alloc_new w (.cells #[.string s] 9);exact ⟨_,rfl,by simp,by simp only [World.cell?,hh];rfl,qG _ _⟩
abbrev VE (x:Ent):Value:=.agg #[.string x.1,.int .i64 x.2.1,.int .i64 x.2.2.1,.int .i64 x.2.2.2]
theorem named1_any (x:Ent) (s:ByteArray) (b:Nat) (w:World) (hb:b < w.heap.size) (hc:w.cell? ⟨b,0,none⟩ = some (.string s)) :
  Calls Tryz.prog 214 #[VE x,.pointer (some ⟨b,0,none⟩)] w fun e w'=>e = .returned (.bool (Fo.called s x))/\w' = w.alloc (BE x):=by
 obtain ⟨xs,xc,xo,xg⟩:=x;have hc2:=(cell_older hb (BE (xs,xc,xo,xg)) 0).trans hc;go_enter Tryz.func214,Tryz.ntmps214;go_wp2;go_ret;exact ⟨rfl,rfl⟩
theorem past1_any (x:Ent) (c:Int) (b:Nat) (w:World) (hb:b < w.heap.size) (hc:w.cell? ⟨b,0,none⟩ = some (.int .i64 c)) :
  Calls Tryz.prog 161 #[VE x,.pointer (some ⟨b,0,none⟩)] w fun e w'=>e = .returned (.bool (Fo.past c x))/\w' = w.alloc (BE x):=by
 obtain ⟨xs,xc,xo,xg⟩:=x;have hc2:=(cell_older hb (BE (xs,xc,xo,xg)) 0).trans hc;go_enter Tryz.func161,Tryz.ntmps161;go_wp2;go_ret;exact ⟨rfl,rfl⟩
theorem index_named (v:Value) (l:List Ent) (s:ByteArray) (b:Nat) (w:World) (hv:AtW EE w v l) (hb:b < w.heap.size) (hc:w.cell? ⟨b,0,none⟩ = some (.string s)) :
  Calls Tryz.prog 162 #[v,VF 214 b] w fun e w'=>e = .returned (.int .i64 (Fo.at' (Fo.called s) l))/\Bw w w':=by
 obtain ⟨ao,cap,rfl,hm,hx⟩:=hv.open;clear hv;unfold maxLen at hm;obtain ⟨n,hn⟩:=qE l.length;rw [hn] at hm ⊢;have HN:Hid _:=hn;have HX:Hid _:=hx;have HC:Hid _:=hc;clear hn hx hc;go_enter Tryz.func162,Tryz.ntmps162;go_wp2;go_loopw [8] (fun i wr=>∃ k:Nat,k<=n/\i = .int .i64 k/\Hid (∀ j y,j < k->l[j]? = some y->Fo.called s y = false)/\Hid (Bw w wr)) (fun i _=>n - (intOf i).toNat)
 case atStart=>exact ⟨0,Nat.zero_le _,rfl,fun j y hj=>by omega,Below.refl _ _⟩
 case round =>
  obtain ⟨k,hk,rfl,HP,HB⟩:=hrel
  by_cases hlt:k < n
  ·obtain ⟨x,hxk⟩:∃ x,l[k]? = some x:=⟨_,List.getElem?_eq_getElem (by rw [HN.out];exact hlt)⟩;have HXK:Hid _:=hxk;obtain ⟨b2,off,rfl,-,hB,hcx⟩:=HX.out k x hxk;have a:=fun j u hj=>(HB.out.cell (p:=⟨b2,off + (k * EE.sz + j),none⟩) hB).trans (hcx j u hj)
   have c0:wr.cell? ⟨b2,off + k * 4,none⟩ = some (.string x.1):=a 0 _ rfl;have c1:wr.cell? ⟨b2,off + k * 4 + 1,none⟩ = some (.int .i64 x.2.1):=a 1 _ rfl;have c2:wr.cell? ⟨b2,off + k * 4 + 2,none⟩ = some (.int .i64 x.2.2.1):=a 2 _ rfl;have c3:wr.cell? ⟨b2,off + k * 4 + 3,none⟩ = some (.int .i64 x.2.2.2):=a 3 _ rfl;have hsz:=HB.out.size;have HC2:Hid _:=(HB.out.cell (p:=⟨b,0,none⟩) hb).trans HC.out;clear a hcx hxk;have hlt':(k:Int) < (n:Int):=by omega
   cases hp:Fo.called s x with
   | true =>
    have HT:Hid _:=hp;have HA:Hid _:=Fo.at_hit HXK.out hp HP.out;clear hp;go_wp2_with fail;refine (named1_any x s b _ (by omega) HC2.out).mono ?_;rintro e w1 ⟨rfl,rfl⟩;rw [HT.out];go_wp2;go_ret;rw [HA.out];exact ⟨rfl,HB.out.alloc hsz _⟩
   | false =>
    have HT:Hid _:=hp;have HP2:Hid (∀ j y,j < k + 1->l[j]? = some y->Fo.called s y = false):=fun j y hj hy=>by
     by_cases e:j = k
     ·subst e;rw [HXK.out] at hy
      cases hy
      exact hp
     ·exact HP.out j y (by omega) hy
    clear hp;go_wp2_with fail;refine (named1_any x s b _ (by omega) HC2.out).mono ?_;rintro e w1 ⟨rfl,rfl⟩;rw [HT.out];go_wp2
    go_roundw
    case rel=>exact ⟨k + 1,by omega,by go_num,HP2,HB.out.alloc hsz _⟩
    case measure=>simp [intOf];omega
  ·obtain rfl:k = n:=by omega
   have HA:Hid _:=Fo.at_miss fun j y hj=>HP.out j y (by rw [← HN.out];exact hj)
   go_wp2;go_ret;rw [HA.out];exact ⟨rfl,HB.out⟩
theorem index_past (v:Value) (l:List Ent) (s:Int) (b:Nat) (w:World) (hv:AtW EE w v l) (hb:b < w.heap.size) (hc:w.cell? ⟨b,0,none⟩ = some (.int .i64 s)) :
  Calls Tryz.prog 162 #[v,VF 161 b] w fun e w'=>e = .returned (.int .i64 (Fo.at' (Fo.past s) l))/\Bw w w':=by
 obtain ⟨ao,cap,rfl,hm,hx⟩:=hv.open;clear hv;unfold maxLen at hm;obtain ⟨n,hn⟩:=qE l.length;rw [hn] at hm ⊢;have HN:Hid _:=hn;have HX:Hid _:=hx;have HC:Hid _:=hc;clear hn hx hc;go_enter Tryz.func162,Tryz.ntmps162;go_wp2;go_loopw [8] (fun i wr=>∃ k:Nat,k<=n/\i = .int .i64 k/\Hid (∀ j y,j < k->l[j]? = some y->Fo.past s y = false)/\Hid (Bw w wr)) (fun i _=>n - (intOf i).toNat)
 case atStart=>exact ⟨0,Nat.zero_le _,rfl,fun j y hj=>by omega,Below.refl _ _⟩
 case round =>
  obtain ⟨k,hk,rfl,HP,HB⟩:=hrel
  by_cases hlt:k < n
  ·obtain ⟨x,hxk⟩:∃ x,l[k]? = some x:=⟨_,List.getElem?_eq_getElem (by rw [HN.out];exact hlt)⟩;have HXK:Hid _:=hxk;obtain ⟨b2,off,rfl,-,hB,hcx⟩:=HX.out k x hxk;have a:=fun j u hj=>(HB.out.cell (p:=⟨b2,off + (k * EE.sz + j),none⟩) hB).trans (hcx j u hj)
   have c0:wr.cell? ⟨b2,off + k * 4,none⟩ = some (.string x.1):=a 0 _ rfl;have c1:wr.cell? ⟨b2,off + k * 4 + 1,none⟩ = some (.int .i64 x.2.1):=a 1 _ rfl;have c2:wr.cell? ⟨b2,off + k * 4 + 2,none⟩ = some (.int .i64 x.2.2.1):=a 2 _ rfl;have c3:wr.cell? ⟨b2,off + k * 4 + 3,none⟩ = some (.int .i64 x.2.2.2):=a 3 _ rfl;have hsz:=HB.out.size;have HC2:Hid _:=(HB.out.cell (p:=⟨b,0,none⟩) hb).trans HC.out;clear a hcx hxk;have hlt':(k:Int) < (n:Int):=by omega
   cases hp:Fo.past s x with
   | true =>
    have HT:Hid _:=hp;have HA:Hid _:=Fo.at_hit HXK.out hp HP.out;clear hp;go_wp2_with fail;refine (past1_any x s b _ (by omega) HC2.out).mono ?_;rintro e w1 ⟨rfl,rfl⟩;rw [HT.out];go_wp2;go_ret;rw [HA.out];exact ⟨rfl,HB.out.alloc hsz _⟩
   | false =>
    have HT:Hid _:=hp;have HP2:Hid (∀ j y,j < k + 1->l[j]? = some y->Fo.past s y = false):=fun j y hj hy=>by
     by_cases e:j = k
     ·subst e;rw [HXK.out] at hy
      cases hy
      exact hp
     ·exact HP.out j y (by omega) hy
    clear hp;go_wp2_with fail;refine (past1_any x s b _ (by omega) HC2.out).mono ?_;rintro e w1 ⟨rfl,rfl⟩;rw [HT.out];go_wp2
    go_roundw
    case rel=>exact ⟨k + 1,by omega,by go_num,HP2,HB.out.alloc hsz _⟩
    case measure=>simp [intOf];omega
  ·obtain rfl:k = n:=by omega
   have HA:Hid _:=Fo.at_miss fun j y hj=>HP.out j y (by rw [← HN.out];exact hj)
   go_wp2;go_ret;rw [HA.out];exact ⟨rfl,HB.out⟩
namespace Fo
theorem ask_or (l:List Ent) (next:Int) (s:ByteArray):(ask l next s = 0/\Right l next/\Nm.ok s)∨(ask l next s = 4/\¬ Right l next)∨(ask l next s = 409/\Right l next/\¬ Nm.ok s):=by
 rcases err_or l next with ⟨h,hr⟩ | ⟨h,hr⟩
 ·rcases Nm.err_or s with ⟨k,ho⟩ | ⟨k,ho⟩
  ·exact .inl ⟨(ask_right h).trans k,hr,ho⟩
  ·exact .inr (.inr ⟨(ask_right h).trans k,hr,ho⟩)
 ·exact .inr (.inl ⟨ask_wrong h,hr⟩)
noncomputable def findErr (l:List Ent) (next:Int) (s:ByteArray):Int:=if ask l next s = 0 then (if at' (called s) l = -1 then 402 else 0) else ask l next s
noncomputable def plc (l:List Ent) (next:Int) (s:ByteArray):Int:=if findErr l next s = 0 then at' (called s) l else 0
theorem findErr_ask {l:List Ent} {next:Int} {s:ByteArray} {e:Int} (h:ask l next s = e) (he:e≠0):findErr l next s = e/\plc l next s = 0:=by
 have:findErr l next s = e:=by unfold findErr;rw [if_neg (by rw [h];exact he),h]
 exact ⟨this,by unfold plc;rw [if_neg (by rw [this];exact he)]⟩
theorem findErr_miss {l:List Ent} {next:Int} {s:ByteArray} (h:ask l next s = 0) (ha:at' (called s) l = -1):findErr l next s = 402/\plc l next s = 0:=by
 have:findErr l next s = 402:=by unfold findErr;rw [if_pos h,if_pos ha]
 exact ⟨this,by unfold plc;rw [if_neg (by rw [this];decide)]⟩
theorem findErr_hit {l:List Ent} {next:Int} {s:ByteArray} {k:Nat} (h:ask l next s = 0) (ha:at' (called s) l = k):findErr l next s = 0/\plc l next s = k:=by
 have:findErr l next s = 0:=by unfold findErr;rw [if_pos h,if_neg (by rw [ha];omega)]
 exact ⟨this,by unfold plc;rw [if_pos this,ha]⟩
end Fo
theorem cell_next {w w':World} {b j:Nat} {v:Value} (h:w.cell? ⟨b,j,none⟩ = some v) (hb:Bw w w') (hl:b < w.heap.size):w'.cell? ⟨b,j,none⟩ = some v:=(hb.cell (p:=⟨b,j,none⟩) hl).trans h
theorem cell_lt {w:World} {b j:Nat} {v:Value} (h:w.cell? ⟨b,j,none⟩ = some v):b < w.heap.size:=by
 unfold World.cell? at h
 by_cases hb:b < w.heap.size
 ·exact hb
 ·rw [Array.getElem?_eq_none (by simpa using hb)] at h;simp at h
theorem cell_step {w w':World} {b j:Nat} {v:Value} (h:w.cell? ⟨b,j,none⟩ = some v) (hb:Bw w w'):w'.cell? ⟨b,j,none⟩ = some v:=cell_next h hb (cell_lt h)
theorem box_cells (w:World) (v:Value) (next:Int):(w.alloc (BD v next)).cell? ⟨w.heap.size,0,none⟩ = some v/\(w.alloc (BD v next)).cell? ⟨w.heap.size,1,none⟩ = some (.int .i64 next):=by
 have hh:=heap_alloc_new w (BD v next);constructor <;> simp only [World.cell?,hh] <;> rfl
theorem undrew {w w':World} (h:Below w.drew.heap.size w.drew w'):Bw w w':=⟨h.os,h.tape,h.output,h.size,h.block⟩
theorem place_any (v:Value) (l:List Ent) (next:Int) (s:ByteArray) (w:World) (hv:AtW EE w v l) (hs:∀ x∈l,x.1.size<=maxLen) (hn:s.size<=maxLen) :
  Calls Tryz.prog 202 #[VD v next,.string s] w fun e w'=>e = .returned (.tuple #[.int .i64 (Fo.plc l next s),.int .i64 (Fo.findErr l next s)])/\Bw w w':=by
 have HB0:Hid (Bw w (w.alloc (BD v next))):=qG _ _;have HV:Hid (AtW EE (w.alloc (BD v next)) v l):=hv.up HB0.out;have HS:Hid (∀ x∈l,x.1.size<=maxLen):=hs;have HNN:Hid (s.size<=maxLen):=hn;obtain ⟨HD0,HD1⟩:=box_cells w v next;clear hv hs hn;rcases Fo.ask_or l next s with ⟨ha,-,-⟩ | ⟨ha,-⟩ | ⟨ha,-,-⟩
 ·have HA:Hid (Fo.ask l next s = 0):=ha;rcases Fo.at_or (Fo.called s) l with ⟨ht,-⟩ | ⟨k,x,ht,hx,-,-⟩
  ·have HT:Hid (Fo.at' (Fo.called s) l = -1):=ht;obtain ⟨HE,HP⟩:Hid (Fo.findErr l next s = 402)/\Hid (Fo.plc l next s = 0):=Fo.findErr_miss ha ht;rw [HE.out,HP.out];clear ha ht;go_enter Tryz.func202,Tryz.ntmps202;go_wp2_with fail;refine (frefuse_any v l next s _ HV.out HS.out HNN.out).mono ?_;rintro e w1 ⟨rfl,hb⟩;rw [HA.out];have hb1:=HB0.out.trans (hb.mono (by simp));have HB1:Hid (Bw w w1):=hb1;have HV1:Hid (AtW EE w1 v l):=HV.out.up hb;have hd0:=cell_next HD0 hb (by simp);have HSS:Hid _:=hd0;clear hb hb1 hd0 HD0 HD1;go_wp2_with fail
   go_region_held3 (fun w'=>w'.cell? ⟨w.heap.size,0,none⟩ = some v) (first | exact HSS.out | exact cell_step (by assumption) (by assumption)) (first
    | (go_at_call 211;refine (named_any s _).mono ?_;rintro e w2 ⟨bx,rfl,hbx,hcx,hb2⟩)
    | (go_at_call 162;refine (index_named v l s bx _ (HV1.out.up (undrew hb2)) hbx hcx).mono ?_;rintro e w3 ⟨rfl,hb3⟩;rw [HT.out]))
   have HB3:Hid (Bw w w3):=by
    have h2:=HB1.out.trans ((undrew hb2).mono HB1.out.size);exact h2.trans (hb3.mono h2.size)
   clear hb2 hb3 hbx hcx;go_wp2
   go_ret2
   exact ⟨rfl,HB3.out⟩
  ·have HT:Hid _:=ht;obtain ⟨HE,HP⟩:Hid (Fo.findErr l next s = 0)/\Hid (Fo.plc l next s = k):=Fo.findErr_hit ha ht;rw [HE.out,HP.out];clear ha ht;go_enter Tryz.func202,Tryz.ntmps202;go_wp2_with fail;refine (frefuse_any v l next s _ HV.out HS.out HNN.out).mono ?_;rintro e w1 ⟨rfl,hb⟩;rw [HA.out];have hb1:=HB0.out.trans (hb.mono (by simp));have HB1:Hid _:=hb1;have HV1:Hid (AtW EE w1 v l):=HV.out.up hb;have hd0:=cell_next HD0 hb (by simp);have HSS:Hid _:=hd0;clear hb hb1 hd0 HD0 HD1;go_wp2_with fail
   go_region_held3 (fun w'=>w'.cell? ⟨w.heap.size,0,none⟩ = some v) (first | exact HSS.out | exact cell_step (by assumption) (by assumption)) (first
    | (go_at_call 211;refine (named_any s _).mono ?_;rintro e w2 ⟨bx,rfl,hbx,hcx,hb2⟩)
    | (go_at_call 162;refine (index_named v l s bx _ (HV1.out.up (undrew hb2)) hbx hcx).mono ?_;rintro e w3 ⟨rfl,hb3⟩;rw [HT.out]))
   have HB3:Hid (Bw w w3):=by
    have h2:=HB1.out.trans ((undrew hb2).mono HB1.out.size);exact h2.trans (hb3.mono h2.size)
   clear hb2 hb3 hbx hcx;go_wp2
   go_ret2
   exact ⟨rfl,HB3.out⟩
 ·have HA:Hid _:=ha;obtain ⟨HE,HP⟩:Hid (Fo.findErr l next s = 4)/\Hid (Fo.plc l next s = 0):=Fo.findErr_ask ha (by decide);rw [HE.out,HP.out];clear ha;go_enter Tryz.func202,Tryz.ntmps202;go_wp2_with fail;refine (frefuse_any v l next s _ HV.out HS.out HNN.out).mono ?_;rintro e w1 ⟨rfl,hb⟩;rw [HA.out];go_wp2
  go_ret2
  exact ⟨rfl,HB0.out.trans (hb.mono (by simp))⟩
 ·have HA:Hid _:=ha;obtain ⟨HE,HP⟩:Hid (Fo.findErr l next s = 409)/\Hid (Fo.plc l next s = 0):=Fo.findErr_ask ha (by decide);rw [HE.out,HP.out];clear ha;go_enter Tryz.func202,Tryz.ntmps202;go_wp2_with fail;refine (frefuse_any v l next s _ HV.out HS.out HNN.out).mono ?_;rintro e w1 ⟨rfl,hb⟩;rw [HA.out];go_wp2
  go_ret2
  exact ⟨rfl,HB0.out.trans (hb.mono (by simp))⟩
namespace Fo
def zeroE:Ent:=(⟨#[]⟩,0,0,0)
noncomputable def found (l:List Ent) (next:Int) (s:ByteArray):Ent:=if findErr l next s = 0 then l.getD (plc l next s).toNat zeroE else zeroE
theorem found_no {l:List Ent} {next:Int} {s:ByteArray} {e:Int} (h:findErr l next s = e) (he:e≠0):found l next s = zeroE:=by unfold found;rw [if_neg (by rw [h];exact he)]
theorem found_hit {l:List Ent} {next:Int} {s:ByteArray} {k:Nat} {x:Ent} (h:findErr l next s = 0) (hp:plc l next s = k) (hx:l[k]? = some x):found l next s = x:=by
  unfold found;rw [if_pos h,hp,show ((k:Int)).toNat = k from by omega,List.getD,hx];rfl
theorem findErr_or (l:List Ent) (next:Int) (s:ByteArray):(∃ (k:Nat) (x:Ent),findErr l next s = 0/\plc l next s = k/\l[k]? = some x/\called s x = true/\(∀ j y,j < k->l[j]? = some y->called s y = false)/\Right l next/\Nm.ok s)∨(plc l next s = 0/\(findErr l next s = 4∨findErr l next s = 409∨findErr l next s = 402)):=by
  rcases ask_or l next s with ⟨ha,hr,ho⟩ | ⟨ha,-⟩ | ⟨ha,-,-⟩
  · rcases at_or (called s) l with ⟨ht, -⟩ | ⟨k, x, ht, hx, hc, hb⟩
    · have := findErr_miss ha ht
      exact .inr ⟨this.2,.inr (.inr this.1)⟩
    · have := findErr_hit ha ht
      exact .inl ⟨k,x,this.1,this.2,hx,hc,hb,hr,ho⟩
  · have := findErr_ask ha (by decide)
    exact .inr ⟨this.2,.inl this.1⟩
  · have := findErr_ask ha (by decide)
    exact .inr ⟨this.2,.inr (.inl this.1)⟩
end Fo
abbrev BZE:Obj:=.cells #[.string ⟨#[]⟩,.int .i64 0,.int .i64 0,.int .i64 0] 110
theorem four_of {w:World} {A:Nat} {x:Ent} (h:w.heap[A]? = some (BE x)) :
    (w.cell? ⟨A,0,none⟩ = some (.string x.1)/\w.cell? ⟨A,1,none⟩ = some (.int .i64 x.2.1)/\w.cell? ⟨A,2,none⟩ = some (.int .i64 x.2.2.1)/\w.cell? ⟨A,3,none⟩ = some (.int .i64 x.2.2.2))/\∀ j,w.frozen? ⟨A,j,none⟩ = false:=by
  refine ⟨⟨?_,?_,?_,?_⟩,fun j=>?_⟩ <;> simp [World.cell?,World.frozen?,h]
theorem ffind_any (v:Value) (l:List Ent) (next:Int) (s:ByteArray) (w:World) (hv:AtW EE w v l) (hs:∀ x∈l,x.1.size<=maxLen) (hn:s.size<=maxLen) :
    Calls Tryz.prog 184 #[VD v next,.string s] w fun e w'=>e = .returned (.tuple #[VE (Fo.found l next s),.int .i64 (Fo.findErr l next s)])/\Bw w w':=by
  obtain ⟨W,hW⟩:=qF ((w.alloc (BD v next)).alloc BZE);have HB0:Hid (Bw w W):=by show Bw w W;rw [hW];exact (qG _ _).alloc (by simp) _
  have HA0:Hid (W.heap[w.heap.size + 1]? = some BZE):=by
    have:=heap_alloc_new (w.alloc (BD v next)) BZE;rw [← hW] at this
    rwa [show (w.alloc (BD v next)).heap.size = w.heap.size + 1 by simp] at this
  have hws:w.heap.size + 1 < W.heap.size:=by rw [hW];simp
  obtain ⟨a0,a1⟩:W.cell? ⟨w.heap.size,0,none⟩ = some v/\W.cell? ⟨w.heap.size,1,none⟩ = some (.int .i64 next):=by
    have:=box_cells w v next;rw [hW];exact ⟨(cell_older (by simp) _ _).trans this.1,(cell_older (by simp) _ _).trans this.2⟩
  have HV:Hid (AtW EE W v l):=hv.up HB0.out;have HS:Hid (∀ x∈l,x.1.size<=maxLen):=hs;have HNN:Hid (s.size<=maxLen):=hn;obtain ⟨ao,cap,rfl,hm,hx⟩:=hv.open;clear hv hs hn;unfold maxLen at hm;rcases Fo.findErr_or l next s with ⟨k,x,he,hp,hxk,-,-,-,-⟩ | ⟨hp,he⟩
  · have HE : Hid (Fo.findErr l next s = 0) := he
    have HP:Hid (Fo.plc l next s = k):=hp;have HF:Hid (Fo.found l next s = x):=Fo.found_hit he hp hxk;have hk:=(List.getElem?_eq_some_iff.1 hxk).1;obtain ⟨bb,off,rfl,-,hB,hc⟩:=hx k x hxk;rw [HF.out,HE.out];obtain ⟨m,hm'⟩:=qE l.length;rw [hm'] at hm hk HV hW a0 ⊢;have hkI:(k:Int) < (m:Int):=by omega
    have HC:Hid (∀ j u,(EE.cells x)[j]? = some u->w.cell? ⟨bb,off + (k * EE.sz + j),none⟩ = some u):=hc;clear he hp hx hxk hm' hc;go_enter Tryz.func184,Tryz.ntmps184;go_wp2_with fail;rw [← hW];refine (place_any _ l next s _ HV.out HS.out HNN.out).mono ?_;rintro e w1 ⟨rfl,hb⟩;rw [HE.out,HP.out];have HB1:Hid (Bw w w1):=HB0.out.trans (hb.mono HB0.out.size);have HA1:Hid (w1.heap[w.heap.size + 1]? = some BZE):=(hb.block _ (by omega)).trans HA0.out;have e0:=cell_next a0 hb (by omega);have aa:=fun j u hj=>(HB1.out.cell (p:=⟨bb,off + (k * EE.sz + j),none⟩) hB).trans (HC.out j u hj)
    have c0:w1.cell? ⟨bb,off + k * 4,none⟩ = some (.string x.1):=aa 0 _ rfl;have c1:w1.cell? ⟨bb,off + k * 4 + 1,none⟩ = some (.int .i64 x.2.1):=aa 1 _ rfl;have c2:w1.cell? ⟨bb,off + k * 4 + 2,none⟩ = some (.int .i64 x.2.2.1):=aa 2 _ rfl;have c3:w1.cell? ⟨bb,off + k * 4 + 3,none⟩ = some (.int .i64 x.2.2.2):=aa 3 _ rfl;obtain ⟨⟨z0,z1,z2,z3⟩,zf⟩:=four_of (x:=Fo.zeroE) HA1.out;clear hb aa hW a0 a1;go_wp2
    (try simp only [Exit.inBlock,Exit.then])
    refine bodyPost_ret (v:=.tuple #[VE x,.int .i64 0]) ?_ rfl ⟨rfl,?_⟩
    · rw [results_cell_tmp rfl]
      go_simp
    · repeat (refine Below.setCell ?_ (by simp) _)
      exact HB1.out
  · have HP : Hid (Fo.plc l next s = 0) := hp
    obtain ⟨fe,hfe⟩:=qE (Fo.findErr l next s);have HE:Hid (Fo.findErr l next s = fe):=hfe;rw [hfe] at he;have hne:fe≠0:=by omega
    have HF:Hid (Fo.found l next s = Fo.zeroE):=Fo.found_no hfe hne;rw [HF.out,HE.out];have hne':(fe == 0) = false:=beq_eq_false_iff_ne.2 hne;clear he hp hx hfe hne;go_enter Tryz.func184,Tryz.ntmps184;go_wp2_with fail;rw [← hW];refine (place_any _ l next s _ HV.out HS.out HNN.out).mono ?_;rintro e w1 ⟨rfl,hb⟩;rw [HE.out,HP.out];have HB1:Hid (Bw w w1):=HB0.out.trans (hb.mono HB0.out.size);have HA1:Hid (w1.heap[w.heap.size + 1]? = some BZE):=(hb.block _ (by omega)).trans HA0.out;obtain ⟨⟨z0,z1,z2,z3⟩,zf⟩:=four_of (x:=Fo.zeroE) HA1.out;simp only [Fo.zeroE] at z0 z1 z2 z3;clear hb hW a0 a1;go_wp2
    (try simp only [Exit.inBlock,Exit.then])
    refine bodyPost_ret (v:=.tuple #[.agg #[.string ⟨#[]⟩,.int .i64 0,.int .i64 0,.int .i64 0],.int .i64 fe]) ?_ rfl ⟨rfl,?_⟩
    · rw [results_cell_tmp rfl]
      go_simp
    · repeat (refine Below.setCell ?_ (by simp) _)
      exact HB1.out
theorem finfoE:(Tryz.prog.info? 110).map (fun i=>(i.zero,i.size,i.bytes)) = some (some (.agg #[.string ⟨#[]⟩,.int .i64 0,.int .i64 0,.int .i64 0]),4,40):=by kernel_rfl
theorem wpList_app {P:Program} {w w':World} {ops:Array Oper} {rest:List Oper} {o:Oper} {a:Act} {Q:Exit->Act->World->Prop} (hgd:o.guard = none) (s x:Operand) (t tn:TypeId)
    (ho:o.op = .call { callee:=.builtin .append,args:=#[s,x],argTypes:=#[t,tn] }) {v xv v':Value} (hv:a.eval s = v) (hxv:a.eval x = xv) (hr:∀ ty,(Builtin.append_ #[t,tn] ty #[v,xv]).run P w = .ok v' w')
    (h:wpList P ops Q rest (a.put o.dst v') w'):wpList P ops Q (o :: rest) a w :=
  wpList_plain hgd fun _ hK=>by
    unfold Oper.wp execOp;simp only [ho,resolve,invoke,builtin,Sem.run_bind,Sem.run_pure,Result.andThen_ok,List.map_toArray,List.map_cons,List.map_nil,hv,hxv,hr];exact hK _ _ h
theorem grow_nil (n:Nat) (hn:n<=4398046511104) (w:World):Calls Tryz.prog 213 #[.slice none 0 0,.int .i64 n] w fun e w'=>∃ v,e = .returned v/\Row EE w' w.heap.size 110 v []/\Bw w w':=by
  by_cases h0:n = 0
  · subst h0
    go_enter Tryz.func213,Tryz.ntmps213;go_wp2;go_ret;exact ⟨_,rfl,Row.nil _ _ _ _,Below.refl _ _⟩
  · obtain ⟨j0, hj, hy0, hy1, hy2⟩ := info_parts finfoE
    have happ:=fun ty=>Lib.run_append_nil_zeros (P:=Tryz.prog) w 38 3 ty 110 j0 _ .i64 .i64 Tryz.underlying38 Tryz.underlying3 hj hy0 n (by omega) (by rw [hy1];decide) (by omega) (by rw [hy2];omega)
    have hge:=grownCap_ge w n 0 110;have hcm:grownCap w n 0 110<=maxLen:=grownCap_le_maxLen w n 0 110 (by unfold maxLen;omega);have hcs:(Builtin.zeroCells (Value.agg #[.string ⟨#[]⟩,.int .i64 0,.int .i64 0,.int .i64 0]).cells n ++ Builtin.zeroCells (Value.agg #[.string ⟨#[]⟩,.int .i64 0,.int .i64 0,.int .i64 0]).cells (grownCap w n 0 110 - n)).size = grownCap w n 0 110 * 4:=by
      rw [Array.size_append,size_zeroCells,size_zeroCells,show (Value.agg #[.string ⟨#[]⟩,.int .i64 0,.int .i64 0,.int .i64 0]).cells.size = 4 from rfl];omega
    generalize (Builtin.zeroCells (Value.agg #[.string ⟨#[]⟩,.int .i64 0,.int .i64 0,.int .i64 0]).cells n ++ Builtin.zeroCells (Value.agg #[.string ⟨#[]⟩,.int .i64 0,.int .i64 0,.int .i64 0]).cells (grownCap w n 0 110 - n)) = cur at happ hcs;generalize grownCap w n 0 110 = C at happ hge hcm hcs;have hn0:0 < (n:Int):=by omega
    have HEND:Hid (Row EE (w.drew.alloc (.cells cur 110)) w.heap.size 110 (.slice (some ⟨w.heap.size,0,none⟩) 0 C) []):=.inr ⟨w.heap.size,C,cur,rfl,Nat.le_refl _,heap_alloc_new w.drew _,Nat.zero_le _,hcm,by rw [hcs];exact Nat.le_refl _,by simp [Enc.flat]⟩;unfold maxLen at hcm;have HAPP:Hid (∀ ty,(Builtin.append_ #[38,3] ty #[.slice none 0 0,.int .i64 n]).run Tryz.prog w = .ok (.slice (some ⟨w.heap.size,0,none⟩) n C) (w.drew.alloc (.cells cur 110))):=happ;clear hj hy0 hy1 hy2 h0 hcs happ;go_enter Tryz.func213,Tryz.ntmps213
    go_wp2_with (at_builtin;refine wpList_app rfl _ _ 38 3 rfl rfl rfl HAPP.out ?_)
    go_ret;exact ⟨_,rfl,HEND.out,⟨rfl,rfl,rfl,by simp,fun k hk=>Below.heap_alloc w.drew _ k hk⟩⟩
theorem concat_two (g:Nat) (v1 v2:Value) (l1 l2:List Ent) (w:World) (hg:g < w.heap.size) (c0:w.cell? ⟨g,0,none⟩ = some v1) (c1:w.cell? ⟨g,1,none⟩ = some v2) (h1:AtW EE w v1 l1) (h2:AtW EE w v2 l2) (hl:l1.length + l2.length<=2199023255552) :
    Calls Tryz.prog 206 #[.slice (some ⟨g,0,none⟩) 2 2] w fun e w'=>∃ u,e = .returned u/\Row EE w' w.heap.size 110 u (l1 ++ l2)/\Bw w w':=by
  have H1:Hid (At EE (fun b=>b < w.heap.size) w v1 l1):=h1.imp fun b _ hb=>hb
  have H2:Hid (At EE (fun b=>b < w.heap.size) w v2 l2):=h2.imp fun b _ hb=>hb
  obtain ⟨a1,q1,rfl,-,-⟩:=h1.open;obtain ⟨a2,q2,rfl,-,-⟩:=h2.open;have HL:Hid (l1.length + l2.length<=2199023255552):=hl;clear h1 h2;obtain ⟨n1,hn1⟩:=qE l1.length;obtain ⟨n2,hn2⟩:=qE l2.length;rw [hn1,hn2] at hl;rw [hn1] at c0 H1;rw [hn2] at c1 H2;have HN:Hid (l1.length = n1/\l2.length = n2):=⟨hn1,hn2⟩;clear hn1 hn2;obtain ⟨j0,hj,hy0,hy1,hy2⟩:=info_parts finfoE;go_enter Tryz.func206,Tryz.ntmps206;go_wp2;refine wp_loop_rounds 3 ?_;rw [rounds_succ];go_wp2;rw [rounds_succ];go_wp2;rw [rounds_succ];go_wp2_with fail;rw [show (n1:Int) + (n2:Int) = ((n1 + n2:Nat):Int) by omega];refine (grow_nil (n1 + n2) (by omega) _).mono ?_;rintro e w1 ⟨u1,rfl,hr1,hb1⟩;have HB1:Hid (Bw w w1):=hb1;have HR1:Hid (Row EE w1 w.heap.size 110 u1 []):=hr1;have d0:=cell_next c0 hb1 hg;have H1':Hid (At EE (fun b=>b < w.heap.size) w1 (.slice a1 n1 q1) l1):=H1.out.up hb1;have hs1:=hb1.size;clear hb1 hr1 H1;go_wp2;refine wp_loop_rounds 3 ?_;rw [rounds_succ]
  go_wp2_with (at_builtin;refine wpList_row _ rfl _ _ 38 rfl EE (fun b=>b < w.heap.size) w.heap.size 110 j0 _ 40 Tryz.underlying38 hj hy0 hy1 hy2 rfl _ [] rfl HR1.out _ l1 rfl H1'.out (by have:=HN.out;unfold maxLen;simp;omega) (by have:=HN.out;simp;omega) (by omega) ?_;intro v7 w7 hrow7 hg7 hloc7)
  have HB7:Hid (Bw w w7):=HB1.out.grown hg7 hs1 (fun k hk=>(HR1.out.lt k hk).1);have HR7:Hid (Row EE w7 w.heap.size 110 v7 ([] ++ l1)):=hrow7;have d1:=cell_next c1 HB7.out hg;have H2':Hid (At EE (fun b=>b < w.heap.size) w7 (.slice a2 n2 q2) l2):=H2.out.up HB7.out;have hs7:=HB7.out.size;clear hrow7 hg7 hloc7 d0;rw [rounds_succ]
  go_wp2_with (at_builtin;refine wpList_row _ rfl _ _ 38 rfl EE (fun b=>b < w.heap.size) w.heap.size 110 j0 _ 40 Tryz.underlying38 hj hy0 hy1 hy2 rfl _ ([] ++ l1) rfl HR7.out _ l2 rfl H2'.out (by have:=HN.out;unfold maxLen;simp;omega) (by have:=HN.out;simp;omega) (by omega) ?_;intro v8 w8 hrow8 hg8 hloc8)
  have HB8:Hid (Bw w w8):=HB7.out.grown hg8 hs7 (fun k hk=>(HR7.out.lt k hk).1);have HR8:Hid (Row EE w8 w.heap.size 110 v8 (l1 ++ l2)):=by show Row EE w8 w.heap.size 110 v8 (l1 ++ l2);simpa using hrow8
  clear hrow8 hg8 hloc8;rw [rounds_succ];go_wp2;go_ret;exact ⟨_,rfl,HR8.out,HB8.out⟩
end
end Go.Proofs.YtneojimodomohaaGreat
