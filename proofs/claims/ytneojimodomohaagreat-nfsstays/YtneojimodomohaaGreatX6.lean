/- Sf, NBx, Sr, NOq0, NOq, NRb, as one. -/
import Derived.Test.YtneojimodomohaaGreatX5
set_option maxHeartbeats 8000000
set_option maxRecDepth 100000
set_option linter.unusedSimpArgs false
namespace Go.Proofs.YtneojimodomohaaGreat
open It Go.RowKit
namespace Nf
theorem drop_zero {T:List Ino} {k:Nat} {y:Ino} (hr:It.right T = true) (hy:T[k]? = some y) (hk:y.kind = 1) (h0:k≠0):dropErr T k y.gen = 0/\dropTab T k y.gen = T.set k (gone y.gen):=by
 obtain ⟨f1,f2,f3⟩:=fnd_ok (e:=405) hr hy (by omega);have hd:dropErr T k y.gen = 0:=by unfold dropErr;rw [if_pos f2,if_neg (by omega)]
 refine ⟨hd,?_⟩;unfold dropTab;rw [if_pos hd,show ((k:Int)).toNat = k by omega,Sp.put_set hy]
theorem links_low {T:List Ino} {k:Nat} {y:Ino} (hr:It.right T = true) (hy:T[k]? = some y) (hk:y.kind = 1):0<=y.links:=(file_bd ((It.right_iff.1 hr).2.2 y (List.mem_of_getElem? hy)) hk).2.2.2.2.2.1.1
theorem rel_rx {T:List Ino} {O:List Os.Opn} {dn:Int} {k:Nat} {y:Ino} (h:RX T O dn (fun i=>i = k)) (hy:T[k]? = some y) (hk:y.kind = 1):reE T O ((k:Int),y.gen) = 0/\RX (reT T O ((k:Int),y.gen)) O dn (fun _=>False)/\((reT T O ((k:Int),y.gen)) = T∨(y.links = 0/\reT T O ((k:Int),y.gen) = T.set k (gone y.gen))):=by
 have hr:=(Sp.isSp_iff.1 h.sp).1;have h0:k≠0:=by
  rintro rfl;have:=Sp.root_kind hr hy;omega
 unfold reE reT
 cases hb:needB T O ((k:Int),y.gen) with
 | true =>
  refine ⟨rfl,rx_all h fun x hx hk' hl=>?_,.inl rfl⟩;rw [if_pos rfl] at *;rw [hy] at hx
  cases hx
  rcases (need_iff hy).1 hb with h1 | h1
  ·omega
  ·exact h1
 | false =>
  obtain ⟨d1,d2⟩:=drop_zero hr hy hk h0;have hn:¬ (0 < y.links∨Hl O k y.gen):=fun hq=>by
   rw [(need_iff hy).2 hq] at hb
   cases hb
  have hl:y.links = 0:=by
   have:=links_low hr hy hk;have:¬ 0 < y.links:=fun h=>hn (.inl h)
   omega
  refine ⟨d1,?_,.inr ⟨hl,?_⟩⟩
  ·show RX (if dropErr T k y.gen = 0 then dropTab T k y.gen else T) O dn _;rw [if_pos d1,d2];exact rx_drop h hy hk hl fun hq=>hn (.inr hq)
  ·show (if dropErr T k y.gen = 0 then dropTab T k y.gen else T) = _;rw [if_pos d1,d2]
theorem close_rx {L:List Ino} {O:List Os.Opn} {dn cl fd:Int} (h:RX L O dn (fun _=>False)) (hc:Os.Op.closeErr O cl fd = 0):∃ (k:Nat) (x:Ino),Os.Op.closeOf O cl fd = ((k:Int),x.gen)/\L[k]? = some x/\x.kind = 1/\RX L (Os.Op.closed O cl fd) dn (fun i=>i = k):=by
 unfold Os.Op.closeErr at hc;unfold Os.Op.closeOf Os.Op.closed
 by_cases ha:Os.Op.ask O cl = 0
 ·rw [if_pos ha] at hc ⊢;rw [if_pos ha]
  cases hf:O.find? (Os.Op.mine cl fd) with
  | none =>
   rw [hf] at hc;exact absurd hc (by decide)
  | some o =>
   have hm:=List.mem_of_find?_eq_some hf;have hmm:=List.find?_some hf;obtain ⟨k,x,hx,hno,hg,hk⟩:=h.fl o hm;refine ⟨k,x,Prod.ext hno hg.symm,hx,hk,h.sp,?_,?_,?_,h.by8,h.dn⟩
   ·show Os.Op.right 0 (Os.Op.without O [o]) = true;rw [Os.Op.without_one h.os hf];obtain ⟨r1,r2⟩:=(Os.Op.right_iff O 0).1 h.os;exact (Os.Op.right_iff _ 0).2 ⟨fun z hz=>r1 z (List.mem_filter.1 hz).1,r2.sublist List.filter_sublist⟩
   ·intro z hz;show _;have hz':z∈Os.Op.without O [o]:=hz;rw [Os.Op.without_one h.os hf] at hz';exact h.fl z (List.mem_filter.1 hz').1
   ·intro i z hz hkz hlz hik;obtain ⟨p,hp,hp1,hp2⟩:=h.nd i z hz hkz hlz id;refine ⟨p,?_,hp1,hp2⟩;show p∈Os.Op.without O [o];rw [Os.Op.without_one h.os hf];refine List.mem_filter.2 ⟨hp,?_⟩
    cases hq:Os.Op.mine cl fd p with
    | false=>rfl
    | true =>
     exfalso;have:=Os.Op.mine_one h.os hp hm hq hmm;subst this;exact hik (by omega)
 ·rw [if_neg ha] at hc;exact absurd hc ha
theorem open_rx {L:List Ino} {O:List Os.Opn} {dn cl:Int} {k:Nat} {x:Ino} (h:RX L O dn (fun _=>False)) (hx:L[k]? = some x) (hk:x.kind = 1) (ho:Os.Op.openErr O cl k x.gen = 0):RX L (Os.Op.opened O cl k x.gen) dn (fun _=>False):=by
 have hf:=Os.Op.op_facts ho;have hmem:∀ z,z∈Os.Op.opened O cl k x.gen ↔ z∈O∨z = ((Os.Op.least 0 O:Int),cl,(k:Int),x.gen):=fun z=>by
  rw [hf.2.2.2.2.2.1];have e:z∈O ↔ z∈O.take (Os.Op.least 0 O)∨z∈O.drop (Os.Op.least 0 O):=by
   rw [← List.mem_append,List.take_append_drop]
  rw [List.mem_append,List.mem_append,List.mem_singleton,e];constructor
  ·rintro ((h1 | h1) | h1)
   ·exact .inl (.inl h1)
   ·exact .inr h1
   ·exact .inl (.inr h1)
  ·rintro ((h1 | h1) | h1)
   ·exact .inl (.inl h1)
   ·exact .inr h1
   ·exact .inl (.inr h1)
 refine ⟨h.sp,Os.Op.op_right ho,fun z hz=>?_,fun i z hz h1 h2 h3=>?_,h.by8,h.dn⟩
 ·rcases (hmem z).1 hz with h1 | h1
  ·exact h.fl z h1
  ·rw [h1];exact ⟨k,x,hx,rfl,rfl,hk⟩
 ·obtain ⟨p,hp,hp1⟩:=h.nd i z hz h1 h2 h3;exact ⟨p,(hmem p).2 (.inl hp),hp1⟩
def PP (L:List Ino) (c:Cal) (e:Ent):Prop:=e.1 = c.nm/\(c.k = 9∨c.k = 11∨∃ x,L[e.2.2.1.toNat]? = some x/\x.kind = 2)
def Did (L:List Ino) (dn:Int) (c:Cal) (T:List Ino):Prop :=
 T = L∨(∃ kt,Chg L T dn kt (PP L c))∨(∃ (k:Nat) (x y:Ino),L[k]? = some x/\x.kind = 1/\c.no = k/\c.gen = x.gen/\T = L.set k y) ∨
  ∃ (kt:Nat) (T1:List Ino) (y:Ino),Sp.isSp T1 = true/\(T1 = L∨Chg L T1 dn kt (PP L c))/\T1[kt]? = some y/\y.kind = 1/\y.links = 0/\T = T1.set kt (gone y.gen)
theorem Chg.mono {L T:List Ino} {st:Int} {kt:Nat} {P Q:Ent->Prop} (c:Chg L T st kt P) (h:∀ e,P e->Q e):Chg L T st kt Q:=⟨c.sp,c.len,fun i x hx=>by
 obtain ⟨x',h1,h2⟩:=c.old i x hx;refine ⟨x',h1,?_⟩;rcases h2 with ⟨a1,a2,a3,a4,a5,a6,a7⟩ | h2 | h2
 ·exact .inl ⟨a1,a2,a3,a4,a5,a6,fun e he=>(a7 e he).imp id (h e)⟩
 ·exact .inr (.inl h2)
 ·exact .inr (.inr h2),c.new⟩
structure Out (L:List Ino) (O:List Os.Opn) (dn:Int) (c:Cal) (T:List Ino) (Q:List Os.Opn) (R:Rpl):Prop where
 rx:RX T Q dn (fun _=>False)
 did:Did L dn c T
 err:R.e≠0->T = L/\Q = O/\R = bad R.e
section
variable {L:List Ino} {O:List Os.Opn} {dn:Int} {c:Cal}
theorem out_still {R:Rpl} (h:RX L O dn (fun _=>False)) (hd:dn + 1<=1099511627776) (hR:R.e≠0->R = bad R.e):Out L O (dn + 1) c L O R:=⟨rx_more h hd,.inl rfl,fun he=>⟨rfl,rfl,hR he⟩⟩
theorem out_chg {T:List Ino} {R:Rpl} (h:RX L O dn (fun _=>False)) (hd:dn + 1<=1099511627776) (hT:Chg L T (dn + 1) 0 (PP L c)) (hR:R.e = 0):Out L O (dn + 1) c T O R :=
 ⟨rx_all (rx_chg h hd hT) fun x hx hk=>by
  have:=Sp.root_kind (Sp.isSp_iff.1 hT.sp).1 hx;omega,.inr (.inl ⟨0,hT⟩),fun he=>absurd hR he⟩
theorem told_bad {E no gen:Int} {x:Ino}:(told E no gen x).e≠0->told E no gen x = bad (told E no gen x).e:=by
 unfold told;split
 ·exact fun h=>absurd rfl h
 ·exact fun _=>rfl
theorem told_e {E no gen:Int} {x:Ino}:(told E no gen x).e = E:=by
 unfold told;split
 ·rename_i h
  exact h.symm
 ·rfl
theorem out_make {kind:Int} (h:RX L O dn (fun _=>False)) (hd:dn + 1<=1099511627776):Out L O (dn + 1) c (makeT L c kind (dn + 1)) O (makeP L c kind (dn + 1)):=by
 unfold makeT makeP
 by_cases he:Sp.mkE (Sp.chk Sp.isSp) L c.no c.gen c.nm kind (dn + 1) = 0
 ·rw [if_pos he];exact out_chg h hd ((make_chg he).mono fun _ h=>h.elim) (told_e.trans he)
 ·rw [if_neg he];exact out_still h hd told_bad
theorem out_link (h:RX L O dn (fun _=>False)) (hd:dn + 1<=1099511627776):Out L O (dn + 1) c (lkT L c (dn + 1)) O (linkP L c (dn + 1)):=by
 unfold linkP
 by_cases he:lkE L c (dn + 1) = 0
 ·unfold lkT;rw [if_pos he,he];unfold lkE at he;exact out_chg h hd ((link_chg he).mono fun _ h=>h.elim) told_e
 ·rw [show lkT L c (dn + 1) = L from by unfold lkT;rw [if_neg he]];exact out_still h hd told_bad
theorem out_unlink (hk:c.k = 9) (h:RX L O dn (fun _=>False)) (hd:dn + 1<=1099511627776):Out L O (dn + 1) c (unT L O c.no c.gen c.nm (dn + 1)) O (bad (unE L O c.no c.gen c.nm (dn + 1))):=by
 unfold unT unE
 by_cases he:Sp.ulE (Sp.chk Sp.isSp) L c.no c.gen c.nm (dn + 1) = 0
 ·rw [if_pos he,if_pos he];obtain ⟨kt,y,hH,hy,hky,h0,hc⟩:=unlink_chg he;have hc':Chg L _ (dn + 1) kt (PP L c):=hc.mono fun e h=>⟨h,.inl hk⟩
  rw [hH];obtain ⟨r1,r2,r3⟩:=rel_rx (rx_chg h hd hc') hy hky;refine ⟨r2,?_,fun hq=>absurd r1 hq⟩;rcases r3 with r3 | ⟨r3,r4⟩
  ·rw [r3];exact .inr (.inl ⟨kt,hc'⟩)
  ·exact .inr (.inr (.inr ⟨kt,_,y,hc.sp,.inr hc',hy,hky,r3,r4⟩))
 ·rw [if_neg he,if_neg he];exact out_still h hd fun _=>rfl
theorem out_rmdir (h:RX L O dn (fun _=>False)) (hd:dn + 1<=1099511627776):Out L O (dn + 1) c (rdT L c.no c.gen c.nm (dn + 1)) O (bad (Sp.rmE (Sp.chk Sp.isSp) L c.no c.gen c.nm (dn + 1))):=by
 unfold rdT
 by_cases he:Sp.rmE (Sp.chk Sp.isSp) L c.no c.gen c.nm (dn + 1) = 0
 ·rw [if_pos he];exact out_chg h hd ((rmdir_chg he).mono fun e h=>⟨h.1,.inr (.inr h.2)⟩) he
 ·rw [if_neg he];exact out_still h hd fun _=>rfl
theorem out_rename (hk:c.k = 11) (h:RX L O dn (fun _=>False)) (hd:dn + 1<=1099511627776):Out L O (dn + 1) c (rnT L c.no c.gen c.nm c.no2 c.gen2 c.nm2 (dn + 1)) O (bad (Sp.rnE (Sp.chk Sp.isSp) Sp.insB L c.no c.gen c.nm c.no2 c.gen2 c.nm2 (dn + 1))):=by
 unfold rnT
 by_cases he:Sp.rnE (Sp.chk Sp.isSp) Sp.insB L c.no c.gen c.nm c.no2 c.gen2 c.nm2 (dn + 1) = 0
 ·rw [if_pos he];exact out_chg h hd ((rename_chg he).mono fun e h=>⟨h,.inr (.inl hk)⟩) he
 ·rw [if_neg he];exact out_still h hd fun _=>rfl
theorem out_write (h:RX L O dn (fun _=>False)) (hd:dn + 1<=1099511627776):Out L O (dn + 1) c (wrT L c (dn + 1)) O (wrP L c (dn + 1)):=by
 rcases wr_or (c:=c) h (dn + 1) with ⟨h1,h2⟩ | ⟨k,x,g⟩
 ·rw [h1];exact out_still h hd h2
 ·obtain ⟨e1,e2⟩:=wr_ok h hd g;rw [e1];exact ⟨(wr_y h hd g).2.2.2,.inr (.inr (.inl ⟨k,x,_,g.hx,g.kind,g.no,g.gen.symm,rfl⟩)),fun he=>absurd e2 he⟩
theorem out_cut (h:RX L O dn (fun _=>False)) (hd:dn + 1<=1099511627776):Out L O (dn + 1) c (cuT L c (dn + 1)) O (cuP L c (dn + 1)):=by
 rcases cu_or (c:=c) (L:=L) (dn + 1) with ⟨h1,h2,_⟩ | ⟨k,x,g⟩
 ·rw [h1];exact out_still h hd fun _=>h2
 ·obtain ⟨e1,e2,e3⟩:=cu_ok h hd g;rw [e1];exact ⟨e3,.inr (.inr (.inl ⟨k,x,_,g.hx,g.kind,g.no,g.gen.symm,rfl⟩)),fun he=>absurd e2 he⟩
theorem out_open {cl:Int} (h:RX L O dn (fun _=>False)) (hd:dn + 1<=1099511627776):Out L O (dn + 1) c L (if opE L O cl c = 0 then Os.Op.opened O cl c.no c.gen else O) (openP L O cl c):=by
 by_cases he:opE L O cl c = 0
 ·rw [if_pos he];have h1:fndE L c.no c.gen 1 405 = 0:=by
   unfold opE at he
   by_cases h1:fndE L c.no c.gen 1 405 = 0
   ·exact h1
   ·rw [if_neg h1] at he;exact absurd he h1
  have h2:=he;unfold opE at h2;rw [if_pos h1] at h2;obtain ⟨k,x,hno,hx,hg,hk,hi,hf⟩:=fnd_zero h1 (by decide);rw [hno,← hg] at h2 ⊢;exact ⟨open_rx (rx_more h hd) hx hk h2,.inl rfl,fun hq=>absurd he hq⟩
 ·rw [if_neg he];refine out_still h hd fun _=>?_
  unfold openP bad opN;rw [if_neg he]
theorem out_close {cl:Int} (h:RX L O dn (fun _=>False)) (hd:dn + 1<=1099511627776):Out L O (dn + 1) c (clT L O cl c.n) (if Os.Op.closeErr O cl c.n = 0 then Os.Op.closed O cl c.n else O) (bad (clE L O cl c.n)):=by
 unfold clT clE
 by_cases he:Os.Op.closeErr O cl c.n = 0
 ·rw [if_pos he,if_pos he,if_pos he];obtain ⟨k,x,hH,hx,hk,hX⟩:=close_rx h he;rw [hH];obtain ⟨r1,r2,r3⟩:=rel_rx (rx_more hX hd) hx hk;refine ⟨r2,?_,fun hq=>absurd r1 hq⟩;rcases r3 with r3 | ⟨r3,r4⟩
  ·exact .inl r3
  ·exact .inr (.inr (.inr ⟨k,L,x,h.sp,.inl rfl,hx,hk,r3,r4⟩))
 ·rw [if_neg he,if_neg he,if_neg he];exact out_still h hd fun _=>rfl
theorem out_read (h:RX L O dn (fun _=>False)) (hd:dn + 1<=1099511627776):Out L O (dn + 1) c L O (readP L c):=out_still h hd fun he=>by
 unfold readP bad at *;have he':rdE L c≠0:=he;have:rdD L c = ⟨#[]⟩:=by
  unfold rdE at he';unfold rdD;split
  ·rename_i h1
   rw [if_pos h1] at he';unfold Bs.Bl.rOut;rw [if_neg he'];rfl
  ·rfl
 rw [this]
theorem out_list (h:RX L O dn (fun _=>False)) (hd:dn + 1<=1099511627776):Out L O (dn + 1) c L O (listP L c):=out_still h hd fun he=>by
 unfold listP bad at *;have he':lsE L c≠0:=he;have:lsP L c = []:=by
  unfold lsE at he';unfold lsP;split
  ·rename_i h1
   rw [if_pos h1] at he';exact Fo.page_no rfl he'
  ·rfl
 rw [this]
theorem call_out {cl:Int} (h:RX L O dn (fun _=>False)) (hd:dn + 1<=1099511627776) (hc:Ks.Ak.right c = true):Out L O (dn + 1) c (tab L O (dn + 1) cl c) (ops L O cl c) (rep L O (dn + 1) cl c):=by
 have hk:=(Ks.Ak.right_iff.1 hc).1;unfold tab ops rep
 by_cases h1:c.k = 1
 ·simp only [h1,if_true];exact out_still h hd told_bad
 by_cases h2:c.k = 2
 ·simp only [h2,if_true];exact out_still h hd told_bad
 by_cases h3:c.k = 3
 ·simp only [h3,if_true];exact out_make h hd
 by_cases h4:c.k = 4
 ·simp only [h4,if_true];exact out_make h hd
 by_cases h5:c.k = 5
 ·simp only [h5,if_true];exact out_read h hd
 by_cases h6:c.k = 6
 ·simp only [h6,if_true];exact out_write h hd
 by_cases h7:c.k = 7
 ·simp only [h7,if_true];exact out_cut h hd
 by_cases h8:c.k = 8
 ·simp only [h8,if_true];exact out_link h hd
 by_cases h9:c.k = 9
 ·simp only [h9,if_true];exact out_unlink h9 h hd
 by_cases h10:c.k = 10
 ·simp only [h10,if_true];exact out_rmdir h hd
 by_cases h11:c.k = 11
 ·simp only [h11,if_true];exact out_rename h11 h hd
 by_cases h12:c.k = 12
 ·simp only [h12,if_true];exact out_list h hd
 by_cases h13:c.k = 13
 ·simp only [h13,if_true];exact out_open h hd
 ·have h14:c.k = 14:=by omega
  simp only [h14,if_true];exact out_close h hd
theorem do_all {cl:Int} (h:RX L O dn (fun _=>False)):RX (doT L O dn cl c) (doO L O dn cl c) (doD L O dn cl) (fun _=>False)/\Did L (doD L O dn cl) c (doT L O dn cl c)/\((doR L O dn cl c).e≠0->doT L O dn cl c = L/\doO L O dn cl c = O/\doR L O dn cl c = bad (doR L O dn cl c).e):=by
 unfold doT doO doD doR
 by_cases he:refE L O dn cl = 0
 ·obtain ⟨_,h1,_⟩:=ref_zero he;have h2:=h.dn.1;rw [if_pos he,if_pos he,if_pos he,if_pos he]
  by_cases hc:Ks.Ak.right c = true
  ·rw [if_pos hc,if_pos hc,if_pos hc];have g:=call_out (cl:=cl) h (by omega) hc;exact ⟨g.rx,g.did,g.err⟩
  ·rw [if_neg hc,if_neg hc,if_neg hc];exact ⟨rx_more h (by omega),.inl rfl,fun _=>⟨rfl,rfl,rfl⟩⟩
 ·rw [if_neg he,if_neg he,if_neg he,if_neg he];exact ⟨h,.inl rfl,fun _=>⟨rfl,rfl,rfl⟩⟩
end
end Nf
end Go.Proofs.YtneojimodomohaaGreat
namespace Go.Proofs.YtneojimodomohaaGreat
open Go.ChangeShapes Go.WideShapes Go.ChangeAt Go.RowKit Go.Deep It
theorem At.off_st2 {α:Type} {E:Enc α} {S:Nat->Prop} {w:World} {v:Value} {l:List α} {z:Nat} {a d g:Option Addr} {b c e f i j:Nat} {dn:Int} (h:At E S w v l) (hz:w.heap[z]? = some (BSt (.slice a b c) (.slice d e f) (.slice g i j) dn)) (hk:∀ x,(∃ (k:Nat) (s:ByteArray),(E.cells x)[k]? = some (Value.string s))∨∃ (p q:Int),(E.cells x)[0]? = some (Value.int .i64 p)/\(E.cells x)[1]? = some (Value.int .i64 q)):At E (fun b=>S b/\b≠z) w v l:=by
 rcases h with h | ⟨b,off,cap,rfl,hS,hb,hp,hc,hm,hx⟩
 ·exact .inl h
 ·refine .inr ⟨b,off,cap,rfl,⟨hS,?_⟩,hb,hp,hc,hm,hx⟩;rintro rfl;rcases hk l[0] with ⟨k,s,hs⟩ | ⟨p,q,h0,h1⟩
  ·have h1:=hx _ _ (E.flat_at l 0 l[0] (List.getElem?_eq_getElem hp) k _ hs);generalize off + (0 * E.sz + k) = i at h1;simp only [World.cell?,hz] at h1;rcases i with _ | _ | _ | _ | i <;> simp at h1
  ·have k0:=hx _ _ (E.flat_at l 0 l[0] (List.getElem?_eq_getElem hp) 0 _ h0);have k1:=hx _ _ (E.flat_at l 0 l[0] (List.getElem?_eq_getElem hp) 1 _ h1);simp only [Nat.zero_mul,Nat.zero_add,Nat.add_zero] at k0 k1;simp only [World.cell?,hz] at k0 k1;rcases off with _ | _ | _ | _ | off <;> simp at k0 k1
theorem At.off_st {α:Type} {E:Enc α} {S:Nat->Prop} {w:World} {v:Value} {l:List α} {z:Nat} {a d g:Option Addr} {b c e f i j:Nat} {dn:Int} (h:At E S w v l) (hz:w.heap[z]? = some (BSt (.slice a b c) (.slice d e f) (.slice g i j) dn)) (hk:∀ x,(∃ (k:Nat) (s:ByteArray),(E.cells x)[k]? = some (Value.string s))∨∃ (p q:Int),(E.cells x)[0]? = some (Value.int .i64 p)/\(E.cells x)[1]? = some (Value.int .i64 q)):At E (fun b=>b≠z) w v l:=(At.off_st2 h hz hk).imp fun _ h _=>h.2
def Sv (w:World) (u uo:Value) (T:List Ino) (O:List Os.Opn):Prop:=∃ L,TabW w u L/\pl L = T/\AtW Os.EO w uo O
theorem Sv.up {w w':World} {u uo:Value} {T:List Ino} {O:List Os.Opn} (h:Sv w u uo T O) (hb:Bw w w'):Sv w' u uo T O:=by
 obtain ⟨L,h1,h2,h3⟩:=h;exact ⟨L,h1.up hb,h2,h3.up hb⟩
theorem Sv.set {w:World} {u uo:Value} {T:List Ino} {O:List Os.Opn} {z:Nat} {a d g:Option Addr} {b c e f i j:Nat} {dn:Int} (h:Sv w u uo T O) (hz:w.heap[z]? = some (BSt (.slice a b c) (.slice d e f) (.slice g i j) dn)) (xs:List Value):Sv (w.setCells z 0 xs) u uo T O:=by
 obtain ⟨L,⟨h1,h4⟩,h2,h3⟩:=h;have t1:TabAt (fun b=>b≠z) w u L:=⟨At.off_st h1 hz fun x=>.inr ⟨x.i.gen,x.i.kind,rfl,rfl⟩,fun x hx=>⟨At.off_st (h4 x hx).1 hz fun y=>.inl ⟨1,y.2,rfl⟩,At.off_st (h4 x hx).2.1 hz fun y=>.inl ⟨0,y.1,rfl⟩,(h4 x hx).2.2⟩⟩;have t2:At Os.EO (fun b=>b≠z) w uo O:=At.off_st h3 hz fun x=>.inr ⟨x.1,x.2.1,rfl,rfl⟩
 exact ⟨L,(setCells_tab (S:=fun b=>b≠z) (fun h=>h rfl) xs 0 w t1).wide,h2,(setCells_ats (S:=fun b=>b≠z) (fun h=>h rfl) xs 0 w t2).wide⟩
theorem sv_do {u uo:Value} {sp:Option Addr} {sn sc:Nat} {dn cl:Int} {c:Cal} {T:List Ino} {O:List Os.Opn} {w:World} (h:Sv w u uo T O) (hx:Nf.RX T O dn (fun _=>False)) (hc:fits c) {R:Nf.Rpl} {T':List Ino} {Q:List Os.Opn} {D:Int} (hR:Nf.doR T O dn cl c = R) (hT:Nf.doT T O dn cl c = T') (hQ:Nf.doO T O dn cl c = Q) (hD:Nf.doD T O dn cl = D) :
  Calls Tryz.prog 11 #[VSt u uo (.slice sp sn sc) dn,.int .i64 cl,Ks.VC c] w fun e w'=>∃ ep en ec up un uc op on oc,e = .returned (.tuple #[VSt (.slice up un uc) (.slice op on oc) (.slice sp sn sc) D,VR R (.slice ep en ec)])/\Sv w' (.slice up un uc) (.slice op on oc) T' Q/\AtW EE w' (.slice ep en ec) R.ents/\Bw w w':=by
 obtain ⟨L,h1,h2,h3⟩:=h;subst h2;refine (do_step h1 h3 (Sp.okN_sp hx.sp) hc hR hT hQ hD).mono ?_;rintro e w' ⟨ep,en,ec,up,un,uc,op,on,oc,L1,rfl,ht,hp,hq,he,hb⟩;exact ⟨ep,en,ec,up,un,uc,op,on,oc,rfl,⟨L1,ht.wide,hp,hq.wide⟩,he.wide,hb⟩
theorem sv_new (w:World):Calls Tryz.prog 17 #[] w fun e w'=>∃ ap n cp,e = .returned (VSt (.slice ap n cp) (.slice none 0 0) (.slice none 0 0) 0)/\Sv w' (.slice ap n cp) (.slice none 0 0) It.new []/\Bw w w':=by
 refine (nnew_any w).mono ?_;rintro e w' ⟨ap,n,cp,L,rfl,ht,hp,hb⟩;exact ⟨ap,n,cp,rfl,⟨L,ht.wide,hp,At.nil⟩,hb⟩
theorem box_next {w:World} {A:Nat} {a d g a' d':Option Addr} {b c e f i j b' c' e' f':Nat} {dn D:Int} {T:List Ino} {O:List Os.Opn} {o:Obj} {W:World} (hA:w.heap[A]? = some (BSt (.slice a b c) (.slice d e f) (.slice g i j) dn)) (hs:Sv w (.slice a' b' c') (.slice d' e' f') T O) (hW:W = (w.setCells A 0 (cS (.slice a' b' c') (.slice d' e' f') (.slice g i j) D)).alloc o) :
  W.heap[A]? = some (BSt (.slice a' b' c') (.slice d' e' f') (.slice g i j) D)/\W.heap[w.heap.size]? = some o/\Sv W (.slice a' b' c') (.slice d' e' f') T O/\(∀ k,k < w.heap.size->k≠A->W.heap[k]? = w.heap[k]?)/\w.heap.size<=W.heap.size/\∀ {n:Nat} {w0:World},n<=A->n<=w.heap.size->Below n w0 w->Below n w0 W:=by
 have hs0:(w.setCells A 0 (cS (.slice a' b' c') (.slice d' e' f') (.slice g i j) D)).heap.size = w.heap.size:=by simp [World.setCells,World.setCell]
 have hl:=(qL hA);have hbn:Below w.heap.size (w.setCells A 0 (cS (.slice a' b' c') (.slice d' e' f') (.slice g i j) D)) W:=by rw [hW,← hs0];exact qG _ _
 refine ⟨(hbn.block _ hl).trans (setCells_at (cS (.slice a' b' c') (.slice d' e' f') (.slice g i j) D) hA rfl),?_,(hs.set hA _).up (by show Below _ _ _;rw [hs0];exact hbn),fun k hk hne=>(hbn.block _ hk).trans (setCells_off _ _ _ hne),by have h:=hbn.size;rw [hs0] at h;exact h,fun hn h1 hb=>?_⟩
 ·rw [hW,← hs0];exact heap_alloc_new _ _
 ·exact (setCells_below hn _ 0 _ hb).trans (hbn.mono h1)
namespace Nf
theorem rx_new:RX new [] 0 (fun _=>False):=right_rx.1 right_new
end Nf
end Go.Proofs.YtneojimodomohaaGreat
namespace Go.Proofs.YtneojimodomohaaGreat
open Go.ChangeShapes Go.WideShapes Go.ChangeAt Go.RowKit Go.Deep It
abbrev BH2 (a b:Int):Obj:=.cells #[.int .i64 a,.int .i64 b] 28
theorem wpAny_l {P:Program} {md:Region.Mode} {ops:Array Oper} {Q:Exit->Act->World->Prop} {n:Nat} {l l':Array Bool} {a:Act} {w:World} (h:l = l') (H:wpAny P md ops Q n l' a w):wpAny P md ops Q n l a w:=by rw [h];exact H
theorem kp {w w':World} {A:Nat} {o:Obj} (hb:Bw w w') (h:w.heap[A]? = some o):w'.heap[A]? = some o:=(hb.block _ (qL h)).trans h
theorem al_new {V v:World} {o:Obj} {A:Nat} (hv:v = V.alloc o) (hA:A = V.heap.size):Bw V v/\v.heap[A]? = some o:=by
 subst hv hA;exact ⟨qG _ _,heap_alloc_new _ _⟩
def Svs (S:Nat->Prop) (w:World) (u uo:Value) (T:List Ino) (O:List Os.Opn):Prop:=∃ L,TabAt S w u L/\pl L = T/\At Os.EO S w uo O
theorem Svs.up {S:Nat->Prop} {w w':World} {u uo:Value} {T:List Ino} {O:List Os.Opn} (h:Svs S w u uo T O) (hb:Bw w w'):Svs S w' u uo T O:=by
 obtain ⟨L,h1,h2,h3⟩:=h;exact ⟨L,h1.up hb,h2,h3.up hb⟩
theorem Svs.imp {S P:Nat->Prop} {w:World} {u uo:Value} {T:List Ino} {O:List Os.Opn} (h:Svs S w u uo T O) (hk:∀ b,S b->b < w.heap.size->P b):Svs P w u uo T O:=by
 obtain ⟨L,h1,h2,h3⟩:=h;exact ⟨L,h1.imp hk,h2,h3.imp hk⟩
theorem svs_new (w:World):Calls Tryz.prog 17 #[] w fun e w'=>∃ ap n cp,e = .returned (VSt (.slice ap n cp) (.slice none 0 0) (.slice none 0 0) 0)/\Svs (fun b=>w.heap.size<=b) w' (.slice ap n cp) (.slice none 0 0) It.new []/\Bw w w':=by
 refine (nnew_any w).mono ?_;rintro e w' ⟨ap,n,cp,L,rfl,ht,hp,hb⟩;exact ⟨ap,n,cp,rfl,⟨L,ht,hp,At.nil⟩,hb⟩
theorem svs_do {S:Nat->Prop} {u uo:Value} {sp:Option Addr} {sn sc:Nat} {dn cl:Int} {c:Cal} {T:List Ino} {O:List Os.Opn} {w:World} (h:Svs S w u uo T O) (hx:Nf.RX T O dn (fun _=>False)) (hc:fits c) {R:Nf.Rpl} {T':List Ino} {Q:List Os.Opn} {D:Int} (hR:Nf.doR T O dn cl c = R) (hT:Nf.doT T O dn cl c = T') (hQ:Nf.doO T O dn cl c = Q) (hD:Nf.doD T O dn cl = D) :
  Calls Tryz.prog 11 #[VSt u uo (.slice sp sn sc) dn,.int .i64 cl,Ks.VC c] w fun e w'=>∃ ep en ec up un uc op on oc,e = .returned (.tuple #[VSt (.slice up un uc) (.slice op on oc) (.slice sp sn sc) D,VR R (.slice ep en ec)])/\Svs (fun b=>S b∨w.heap.size<=b) w' (.slice up un uc) (.slice op on oc) T' Q/\Bw w w':=by
 obtain ⟨L,h1,h2,h3⟩:=h;subst h2;refine (do_step h1 h3 (Sp.okN_sp hx.sp) hc hR hT hQ hD).mono ?_;rintro e w' ⟨ep,en,ec,up,un,uc,op,on,oc,L1,rfl,ht,hp,hq,-,hb⟩;exact ⟨ep,en,ec,up,un,uc,op,on,oc,rfl,⟨L1,ht,hp,hq⟩,hb⟩
structure Rgn (n:Nat) (o:Obj) (U:World) (A7 A8:Nat) (u uo:Value) (T:List Ino) (O:List Os.Opn) (W:World):Prop where
 h7:U.heap[A7]? = some BS0
 h8:U.heap[A8]? = some BR0
 ne:A7≠A8
 w7:W.heap.size<=A7
 w8:W.heap.size<=A8
 sv:Svs (fun b=>b≠A8) U u uo T O
 bl:Bw W U
theorem Rgn.fill {n:Nat} {o:Obj} {U U2 W:World} {A7 A8:Nat} {a d:Option Addr} {b c e f:Nat} {T:List Ino} {O:List Os.Opn} {D:Int} {R:Nf.Rpl} {v:Value} (h:Rgn n o U A7 A8 (.slice a b c) (.slice d e f) T O W) (hU:U2 = (U.setCells A7 0 (cS (.slice a b c) (.slice d e f) (.slice none 0 0) D)).setCells A8 0 (cR R v)) :
  U2.heap[A7]? = some (BSt (.slice a b c) (.slice d e f) (.slice none 0 0) D)/\U2.heap[A8]? = some (BRl R v)/\Sv U2 (.slice a b c) (.slice d e f) T O/\Bw W U2:=by
 subst hU;obtain ⟨L,⟨t1,t2⟩,t3,t4⟩:=h.sv;have e1:At EI (fun b=>b≠A8/\b≠A7) U (.slice a b c) L:=(At.off_st2 t1 h.h7 fun x=>.inr ⟨x.i.gen,x.i.kind,rfl,rfl⟩);have e2:At Os.EO (fun b=>b≠A8/\b≠A7) U (.slice d e f) O:=(At.off_st2 t4 h.h7 fun x=>.inr ⟨x.1,x.2.1,rfl,rfl⟩);have e3:TabAt (fun b=>b≠A8/\b≠A7) U (.slice a b c) L:=⟨e1,fun x hx=>⟨At.off_st2 (t2 x hx).1 h.h7 fun y=>.inl ⟨1,y.2,rfl⟩,At.off_st2 (t2 x hx).2.1 h.h7 fun y=>.inl ⟨0,y.1,rfl⟩,(t2 x hx).2.2⟩⟩;refine ⟨(setCells_off _ _ _ h.ne).trans (setCells_at (cS (.slice a b c) (.slice d e f) (.slice none 0 0) D) h.h7 rfl),setCells_at (cR R v) ((setCells_off _ _ _ (Ne.symm h.ne)).trans h.h8) rfl,⟨L,(setCells_tab (fun h=>h.1 rfl) _ _ _ (setCells_tab (fun h=>h.2 rfl) _ _ _ e3)).wide,t3,(setCells_ats (fun h=>h.1 rfl) _ _ _ (setCells_ats (fun h=>h.2 rfl) _ _ _ e2)).wide⟩,setCells_below h.w8 _ _ _ (setCells_below h.w7 _ _ _ h.bl)⟩
structure Stg (W v:World) (o7 o8:Option Nat):Prop where
 bl:Bw W v
 h7:∀ A,o7 = some A->v.heap[A]? = some BS0/\W.heap.size<=A
 h8:∀ A,o8 = some A->v.heap[A]? = some BR0/\W.heap.size<=A
 ne:∀ A B,o7 = some A->o8 = some B->A≠B
section
variable {W v v':World} {o7 o8:Option Nat} {u uo:Value} {T:List Ino} {O:List Os.Opn} {A:Nat}
theorem Stg.call (h:Stg W v o7 o8) (hb:Bw v v'):Stg W v' o7 o8:=⟨h.bl.trans (hb.mono h.bl.size),fun A hA=>⟨kp hb (h.h7 A hA).1,(h.h7 A hA).2⟩,fun A hA=>⟨kp hb (h.h8 A hA).1,(h.h8 A hA).2⟩,h.ne⟩
theorem Stg.at8 (h:Stg W v o7 o8) {b:Nat} (hb:v.heap.size<=b):o8≠some b:=fun e=>by
 have:=(Array.getElem?_eq_some_iff.1 (h.h8 b e).1).1;omega
theorem Stg.fresh (h:Stg W v o7 o8) (hs:Svs (fun b=>v.heap.size<=b) v' u uo T O):Svs (fun b=>o8≠some b) v' u uo T O:=hs.imp fun _ hb _=>h.at8 hb
theorem Stg.keep (h:Stg W v o7 o8) (hs:Svs (fun b=>o8≠some b∨v.heap.size<=b) v' u uo T O):Svs (fun b=>o8≠some b) v' u uo T O:=hs.imp fun _ hb _=>hb.elim id h.at8
theorem Stg.new7 (h:Stg W v none o8) (hv:v' = v.alloc BS0) (hA:A = v.heap.size):Stg W v' (some A) o8:=by
 obtain ⟨hb,hn⟩:=al_new hv hA;have g:=h.call hb;refine ⟨g.bl,fun B hB=>by cases hB;exact ⟨hn,by rw [hA];exact h.bl.size⟩,g.h8,fun B C hB hC=>?_⟩
 cases hB
 have:=(Array.getElem?_eq_some_iff.1 (h.h8 C hC).1).1;omega
theorem Stg.new8 (h:Stg W v o7 none) (hv:v' = v.alloc BR0) (hA:A = v.heap.size):Stg W v' o7 (some A):=by
 obtain ⟨hb,hn⟩:=al_new hv hA;have g:=h.call hb;refine ⟨g.bl,g.h7,fun B hB=>by cases hB;exact ⟨hn,by rw [hA];exact h.bl.size⟩,fun C B hC hB=>?_⟩
 cases hB
 have:=(Array.getElem?_eq_some_iff.1 (h.h7 C hC).1).1;omega
theorem svs7 {S:Nat->Prop} {o:Obj} (h:Svs S v u uo T O) (hv:v' = v.alloc o):Svs S v' u uo T O:=h.up (al_new hv rfl).1
theorem svs8 {S:Nat->Prop} {o:Obj} (h:Svs S v u uo T O) (hv:v' = v.alloc o) (hA:A = v.heap.size):Svs (fun b=>some A≠some b) v' u uo T O:=(h.imp fun b _ hl e=>by cases e;omega).up (al_new hv rfl).1
theorem Stg.rgn {B n:Nat} {o:Obj} (h:Stg W v (some A) (some B)) (hs:Svs (fun b=>some B≠some b) v u uo T O):Rgn n o v A B u uo T O W:=⟨(h.h7 A rfl).1,(h.h8 B rfl).1,h.ne A B rfl rfl,(h.h7 A rfl).2,(h.h8 B rfl).2,hs.imp fun b hb _ e=>hb (by rw [e]),h.bl⟩
theorem Stg.cell {k:Nat} {o:Obj} (h:Stg W v o7 o8) (hk:W.heap[k]? = some o):v.heap[k]? = some o:=kp h.bl hk
end
structure Big (W U:World) (A:Nat) (u uo:Value) (D:Int) (u' uo':Value) (T:List Ino) (O:List Os.Opn) (l:List (Nat × Obj)):Prop where
 st:U.heap[A]? = some (BSt u uo (.slice none 0 0) D)
 sv:Sv U u' uo' T O
 bx:∀ p∈l,U.heap[p.1]? = some p.2/\p.1≠A
 w7:W.heap.size<=A
 bl:Bw W U
section
variable {W U V:World} {A:Nat} {u uo u' uo':Value} {D D':Int} {T T':List Ino} {O O':List Os.Opn} {l:List (Nat × Obj)}
theorem Big.call {x xo:Value} (h:Big W U A u uo D u' uo' T O l) (hb:Bw U V) (hs:Sv V x xo T' O'):Big W V A u uo D x xo T' O' l:=⟨kp hb h.st,hs,fun p hp=>⟨kp hb (h.bx p hp).1,(h.bx p hp).2⟩,h.w7,h.bl.trans (hb.mono h.bl.size)⟩
theorem Big.store {a d a' d':Option Addr} {b c e f b' c' e' f' B:Nat} {o:Obj} (h:Big W U A (.slice a b c) (.slice d e f) D (.slice a' b' c') (.slice d' e' f') T O l) (hV:V = (U.setCells A 0 (cS (.slice a' b' c') (.slice d' e' f') (.slice none 0 0) D')).alloc o) (hB:B = U.heap.size):Big W V A (.slice a' b' c') (.slice d' e' f') D' (.slice a' b' c') (.slice d' e' f') T O (l ++ [(B,o)]):=by
 obtain ⟨n1,n2,n3,n4,n5,n6⟩:=box_next h.st h.sv hV;refine ⟨n1,n3,fun p hp=>?_,h.w7,n6 h.w7 h.bl.size h.bl⟩;rcases List.mem_append.1 hp with hp | hp
 ·obtain ⟨k1,k2⟩:=h.bx p hp;exact ⟨(n4 _ (qL k1) k2).trans k1,k2⟩
 ·rw [List.mem_singleton.1 hp,hB];refine ⟨n2,fun e=>?_⟩;have:=(qL h.st);have e2:U.heap.size = A:=e;omega
theorem Big.at (h:Big W U A u uo D u' uo' T O l) (k:Nat) {B:Nat} {o:Obj} (hk:l[k]? = some (B,o)):U.heap[B]? = some o/\B≠A/\B < U.heap.size:=⟨(h.bx _ (List.mem_of_getElem? hk)).1,(h.bx _ (List.mem_of_getElem? hk)).2,(Array.getElem?_eq_some_iff.1 (h.bx _ (List.mem_of_getElem? hk)).1).1⟩
end
theorem Rgn.big {n k:Nat} {o o2:Obj} {U U2 W:World} {A7 A8:Nat} {a d:Option Addr} {b c e f:Nat} {T:List Ino} {O:List Os.Opn} {D:Int} {R:Nf.Rpl} {v:Value} (h:Rgn n o U A7 A8 (.slice a b c) (.slice d e f) T O W) (hU:U2 = (U.setCells A7 0 (cS (.slice a b c) (.slice d e f) (.slice none 0 0) D)).setCells A8 0 (cR R v)) (hk:k < W.heap.size) (ho:W.heap[k]? = some o2):Big W U2 A7 (.slice a b c) (.slice d e f) D (.slice a b c) (.slice d e f) T O [(k,o2),(A8,BRl R v)]:=by
 obtain ⟨m1,m2,m3,m4⟩:=h.fill hU;have h7:=h.w7;refine ⟨m1,m3,fun p hp=>?_,h.w7,m4⟩;rcases List.mem_cons.1 hp with rfl | hp
 ·exact ⟨(m4.block _ hk).trans ho,by show k≠A7;omega⟩
 ·rw [List.mem_singleton.1 hp];exact ⟨m2,Ne.symm h.ne⟩
namespace Fst
section
variable {P:Program} {ops:Array Oper} {Q:Exit->Act->World->Prop} {md:Region.Mode} {S:World->Prop}
theorem s1 {ls:List Nat} {n:Nat} {l:Array Bool} {a:Act} {w:World} (i:Nat) {oi:Oper} (hi:(∀ K':Act->World->Prop,(∀ a w,S w->anyL P md ops Q (fun k=>ls.contains k) S n (l.setIfInBounds i true) a w->K' a w)->if Region.wanted oi (yielded ops a.tmps) = true then Oper.wp P oi a w K' Q else K' (a.put oi.dst undef) w)) (hr:Region.ready md ops l = [i]:=by kernel_rfl) (gi:ops[i]? = some oi:=by rfl):anyL P md ops Q (fun k=>ls.contains k) S (n + 1) l a w:=one hr gi hi
theorem s2 {ls:List Nat} {n:Nat} {l:Array Bool} {a:Act} {w:World} (i j:Nat) {oi oj:Oper} (hi:(∀ K':Act->World->Prop,(∀ a w,S w->anyL P md ops Q (fun k=>ls.contains k) S n (l.setIfInBounds i true) a w->K' a w)->if Region.wanted oi (yielded ops a.tmps) = true then Oper.wp P oi a w K' Q else K' (a.put oi.dst undef) w)) (hj:(∀ K':Act->World->Prop,(∀ a w,S w->anyL P md ops Q (fun k=>ls.contains k) S n (l.setIfInBounds j true) a w->K' a w)->if Region.wanted oj (yielded ops a.tmps) = true then Oper.wp P oj a w K' Q else K' (a.put oj.dst undef) w)) (hr:Region.ready md ops l = [i,j]:=by kernel_rfl) (gi:ops[i]? = some oi:=by rfl) (gj:ops[j]? = some oj:=by rfl):anyL P md ops Q (fun k=>ls.contains k) S (n + 1) l a w:=both hr gi gj hi hj
theorem s3 {ls:List Nat} {n:Nat} {l:Array Bool} {a:Act} {w:World} (i j m:Nat) {oi oj om:Oper} (hi:(∀ K':Act->World->Prop,(∀ a w,S w->anyL P md ops Q (fun k=>ls.contains k) S n (l.setIfInBounds i true) a w->K' a w)->if Region.wanted oi (yielded ops a.tmps) = true then Oper.wp P oi a w K' Q else K' (a.put oi.dst undef) w)) (hj:(∀ K':Act->World->Prop,(∀ a w,S w->anyL P md ops Q (fun k=>ls.contains k) S n (l.setIfInBounds j true) a w->K' a w)->if Region.wanted oj (yielded ops a.tmps) = true then Oper.wp P oj a w K' Q else K' (a.put oj.dst undef) w)) (hm:(∀ K':Act->World->Prop,(∀ a w,S w->anyL P md ops Q (fun k=>ls.contains k) S n (l.setIfInBounds m true) a w->K' a w)->if Region.wanted om (yielded ops a.tmps) = true then Oper.wp P om a w K' Q else K' (a.put om.dst undef) w)) (hr:Region.ready md ops l = [i,j,m]:=by kernel_rfl) (gi:ops[i]? = some oi:=by rfl) (gj:ops[j]? = some oj:=by rfl) (gm:ops[m]? = some om:=by rfl):anyL P md ops Q (fun k=>ls.contains k) S (n + 1) l a w:=three hr gi gj gm hi hj hm
theorem tp {ls:List Nat} {i:Nat} {oi:Oper} {v:Value} {n:Nat} {l:Array Bool} {a:Act} {w:World} (hi:ops[i]? = some oi) (hS:S w)
  (h:anyL P md ops Q (fun k=>ls.contains k) S n (l.setIfInBounds i true) (a.put oi.dst v) w)
  (hy:YieldsIf P ops (fun _=>True) oi v a:=by exact Or.inl ⟨by rfl,fun V _=>by go_simp;try with_reducible rfl⟩) (hb:(Region.noSelect ops && (Region.free md ops l i && ((Region.ready md ops l).contains i && !ls.contains i))) = true:=by kernel_rfl) (hQ:∀ c a w,Q (.panic c) (a.put oi.dst v) w->Q (.panic c) a w:=by exact fun _ _ _ h=>h):anyL P md ops Q (fun k=>ls.contains k) S (n + 1) l a w:=by
 simp only [Bool.and_eq_true,Bool.not_eq_true'] at hb;exact takeP hi hb.1 hb.2.1 hb.2.2.1 hb.2.2.2 hQ hy hS h
end
end Fst
abbrev R1:Nf.Rpl:=⟨0,1,1,1,1,0,1,⟨#[]⟩,[],0⟩
theorem orphan_any (w:World):Calls Tryz.prog 10 #[] w fun e w'=>e = .returned (.bool true)/\Bw w w':=by
  obtain ⟨W,hW⟩:=qF (w.alloc (BH2 0 1));have HB0:Hid _:=qB hW;have HA0:Hid _:=qC hW;have hwW:w.heap.size < W.heap.size:=(Array.getElem?_eq_some_iff.1 HA0.out).1;go_enter Tryz.func10,Tryz.ntmps10;go_wp2_with fail;rw [← hW];clear hW;apply cut_in
  · intro hK0
    refine wp_region_any (by kernel_rfl) ?_;change wpAny _ _ _ _ _ _ _ (World.drew _);have HS:(fun V:World=>V.heap[w.heap.size]? = some (BH2 0 1)) W.drew:=HA0.out;refine Fst.any_of (late:=fun k=>[9,10].contains k) (S:=fun V:World=>V.heap[w.heap.size]? = some (BH2 0 1)) _ _ _ _ ?_;refine Fst.take (ls:=[9,10]) (i:=1) (v:=?v1) rfl (by kernel_rfl) (by kernel_rfl) (by kernel_rfl) (by kernel_rfl) (by kernel_rfl) (fun _ _ _ h=>h) (Or.inl ⟨by rfl,?h1⟩) HS ?r1
    case h1=>(intro V s;have s0:=cell_at s 0;have s1:=cell_at s 1;simp at s0 s1;go_simp;try with_reducible rfl)
    try simp only [Act.put,List.setIfInBounds_toArray,List.set_cons_zero,List.set_cons_succ]
    refine Fst.tp (i:=2) rfl (HS) ?_
    try simp only [Act.put,List.setIfInBounds_toArray,List.set_cons_zero,List.set_cons_succ]
    clear HS;have H:Hid (Stg W W.drew none none):=⟨bel_drew (Below.refl _ _),fun _ h=>(by cases h),fun _ h=>(by cases h),fun _ _ h=>(by cases h)⟩;obtain ⟨v,hv⟩:=qF W.drew;replace H:Hid (Stg W v none none):=by rw [hv];exact H
    rw [← hv];clear hv
    repeat' (first
      | (with_reducible show Fst.anyL _ _ _ _ _ _ _ _ _ _
         first
           | refine Fst.s3 0 7 8 (fun K hK=>?_) (fun K hK=>?_) (fun K hK=>?_) (hr:=by decide +kernel)
           | refine Fst.s3 3 7 8 (fun K hK=>?_) (fun K hK=>?_) (fun K hK=>?_) (hr:=by decide +kernel)
           | refine Fst.s2 7 8 (fun K hK=>?_) (fun K hK=>?_) (hr:=by decide +kernel)
           | refine Fst.s2 0 8 (fun K hK=>?_) (fun K hK=>?_) (hr:=by decide +kernel)
           | refine Fst.s2 0 7 (fun K hK=>?_) (fun K hK=>?_) (hr:=by decide +kernel)
           | refine Fst.s2 3 8 (fun K hK=>?_) (fun K hK=>?_) (hr:=by decide +kernel)
           | refine Fst.s2 3 7 (fun K hK=>?_) (fun K hK=>?_) (hr:=by decide +kernel)
           | refine Fst.s1 0 (fun K hK=>?_) (hr:=by decide +kernel)
           | refine Fst.s1 3 (fun K hK=>?_) (hr:=by decide +kernel)
           | refine Fst.s1 7 (fun K hK=>?_) (hr:=by decide +kernel)
           | refine Fst.s1 8 (fun K hK=>?_) (hr:=by decide +kernel)
           | (refine Fst.rest (by kernel_rfl) ?_
              have HR:Hid (Rgn w.heap.size (BH2 0 1) v A7 A8 (.slice up un uc) (.slice op on oc) Nf.F1 [] W):=H.out.rgn T.out;clear H T;refine wpAny_l (l':=#[true,true,true,true,true,true,true,true,true,false,false]) (by kernel_rfl) ?_;revert HR;revert v;revert A8;revert A7;revert oc;revert on;revert op;revert uc;revert un;revert up;revert ec;revert en;revert ep;revert cp;revert n;revert ap;exact hK0.out))
      | (go_simp
         first
           | (refine (svs_new _).mono ?_
              rintro e x ⟨ap,n,cp,rfl,hs,hb⟩;have T:Hid (Svs _ x _ _ _ _):=H.out.fresh hs;replace H:Hid (Stg W x _ _):=H.out.call hb;clear hs hb)
           | (refine (svs_do (cl := 5) (c := Nf.c1) T.out Nf.rx_new (by unfold fits maxLen; decide) Nf.step1.1 Nf.step1.2.1 Nf.step1.2.2.1 Nf.step1.2.2.2).mono ?_
              rintro e x ⟨ep,en,ec,up,un,uc,op,on,oc,rfl,hs,hb⟩;replace T:Hid (Svs _ x _ _ _ _):=H.out.keep hs;replace H:Hid (Stg W x _ _):=H.out.call hb;clear hs hb;refine hK _ _ (H.out.cell HA0.out) ?_;clear hK K
              try simp only [Act.put,List.setIfInBounds_toArray,List.set_cons_zero,List.set_cons_succ]
              refine Fst.tp (i:=4) rfl (H.out.cell HA0.out) ?_
              try simp only [Act.put,List.setIfInBounds_toArray,List.set_cons_zero,List.set_cons_succ]
              refine Fst.tp (i:=5) rfl (H.out.cell HA0.out) ?_
              try simp only [Act.put,List.setIfInBounds_toArray,List.set_cons_zero,List.set_cons_succ]
              refine Fst.tp (i:=6) rfl (H.out.cell HA0.out) ?_)
           | (obtain ⟨A7, hA⟩ : ∃ a, a = v.heap.size := ⟨_, rfl⟩
              obtain ⟨x,hv⟩:=qF (v.alloc BS0);rw [← hv,← hA]
              try replace T:Hid (Svs _ x _ _ _ _):=svs7 T.out hv
              replace H:Hid (Stg W x _ _):=H.out.new7 hv hA;clear hv hA)
           | (obtain ⟨A8, hA⟩ : ∃ a, a = v.heap.size := ⟨_, rfl⟩
              obtain ⟨x,hv⟩:=qF (v.alloc BR0);rw [← hv,← hA]
              try replace T:Hid (Svs _ x _ _ _ _):=svs8 T.out hv hA
              replace H:Hid (Stg W x _ _):=H.out.new8 hv hA;clear hv hA)
         try (refine hK _ _ (H.out.cell HA0.out) ?_;clear hK K)
         try simp only [Act.put,List.setIfInBounds_toArray,List.set_cons_zero,List.set_cons_succ]
         rename World=>v))
  intro ap n cp ep en ec up un uc op on oc A7 A8 U HR;obtain ⟨f0,f1,f2,f3⟩:=st_of HR.out.h7;have ff:=fr_at HR.out.h7;obtain ⟨g0,g1,g2,g3,g4,g5,g6,g7,g8,g9⟩:=rp_of HR.out.h8;have gg:=fr_at HR.out.h8;have h78:=HR.out.ne;refine wpAny_ready (rs:=[9]) (by kernel_rfl) (by simp) ?_;refine AllReady.cons rfl (fun K hK=>?_) AllReady.nil
  go_simp
  (try go_wp2_with fail)
  first | (refine hK _ _ ?_;clear hK K) | skip
  try simp only [Act.put,List.setIfInBounds_toArray,List.set_cons_zero,List.set_cons_succ]
  refine wpAny_ready (rs:=[10]) (by kernel_rfl) (by simp) ?_;refine AllReady.cons rfl (fun K hK=>?_) AllReady.nil
  go_simp
  (try go_wp2_with fail)
  first | (refine hK _ _ ?_;clear hK K) | skip
  try simp only [Act.put,List.setIfInBounds_toArray,List.set_cons_zero,List.set_cons_succ]
  refine wpAny_done (by kernel_rfl) ?_ _;obtain ⟨U2,hU2⟩:=qF ((((((((((((((U.setCell ⟨A7,0,none⟩ (.slice up un uc)).setCell ⟨A7,1,none⟩ (.slice op on oc)).setCell ⟨A7,2,none⟩ (.slice none 0 0)).setCell ⟨A7,3,none⟩ (.int .i64 1)).setCell ⟨A8,0,none⟩ (.int .i64 0)).setCell ⟨A8,1,none⟩ (.int .i64 1)).setCell ⟨A8,2,none⟩ (.int .i64 1)).setCell ⟨A8,3,none⟩ (.int .i64 1)).setCell ⟨A8,4,none⟩ (.int .i64 1)).setCell ⟨A8,5,none⟩ (.int .i64 0)).setCell ⟨A8,6,none⟩ (.int .i64 1)).setCell ⟨A8,7,none⟩ (.string ⟨#[]⟩)).setCell ⟨A8,8,none⟩ (.slice ep en ec)).setCell ⟨A8,9,none⟩ (.int .i64 0));rw [← hU2];have H:Hid (Big W U2 A7 (.slice up un uc) (.slice op on oc) 1 (.slice up un uc) (.slice op on oc) _ [] [(w.heap.size,BH2 0 1),(A8,BRl R1 (.slice ep en ec))]):=HR.out.big hU2 hwW HA0.out;clear hU2 HR f0 f1 f2 f3 ff g0 g1 g2 g3 g4 g5 g6 g7 g8 g9 gg h78;obtain ⟨t0,t1,t2,t3⟩:=st_of H.out.st;have tf:=fr_at H.out.st;have tl:=(Array.getElem?_eq_some_iff.1 H.out.st).1;obtain ⟨k0,kn,kl⟩:=H.out.at 0 rfl;have k1:=cell_at k0 1;replace k0:=cell_at k0 0;simp at k0 k1;obtain ⟨g0,gn,gl⟩:=H.out.at 1 rfl;obtain ⟨g0,g1,g2,g3,g4,g5,g6,g7,g8,g9⟩:=rp_of g0;go_wp2_with fail;refine (sv_do (cl:=5) (c:=Nf.c2) H.out.sv (Nf.right_rx.1 Nf.right_1) (by unfold fits maxLen;decide) Nf.step2.1 Nf.step2.2.1 Nf.step2.2.2.1 Nf.step2.2.2.2).mono ?_;rintro e w3 ⟨ep3,en3,ec3,up3,un3,uc3,op3,on3,oc3,rfl,hs,-,hb⟩;replace H:Hid (Big W w3 A7 _ _ _ _ _ _ _ _):=H.out.call hb hs;clear t0 t1 t2 t3 tf tl k0 k1 kn kl g0 g1 g2 g3 g4 g5 g6 g7 g8 g9 gn gl hs hb;obtain ⟨t0,t1,t2,t3⟩:=st_of H.out.st;have tf:=fr_at H.out.st;have tl:=(Array.getElem?_eq_some_iff.1 H.out.st).1;obtain ⟨k0,kn,kl⟩:=H.out.at 0 rfl;have k1:=cell_at k0 1;replace k0:=cell_at k0 0;simp at k0 k1;obtain ⟨g0,gn,gl⟩:=H.out.at 1 rfl;obtain ⟨g0,g1,g2,g3,g4,g5,g6,g7,g8,g9⟩:=rp_of g0;go_wp2_with fail
  obtain ⟨U3,hU⟩:=qF (((((w3.setCell ⟨A7,0,none⟩ (.slice up3 un3 uc3)).setCell ⟨A7,1,none⟩ (.slice op3 on3 oc3)).setCell ⟨A7,2,none⟩ (.slice none 0 0)).setCell ⟨A7,3,none⟩ (.int .i64 2)).alloc (BRl ((⟨0,0,0,0,0,0,0,⟨#[]⟩,[],0⟩:Nf.Rpl)) (.slice ep3 en3 ec3)));obtain ⟨B3,hA⟩:=qF w3.heap.size;replace H:Hid (Big W U3 A7 _ _ 2 _ _ _ _ _):=H.out.store (o:=BRl ((⟨0,0,0,0,0,0,0,⟨#[]⟩,[],0⟩:Nf.Rpl)) (.slice ep3 en3 ec3)) hU hA;rw [← hU,← hA];clear t0 t1 t2 t3 tf tl k0 k1 kn kl g0 g1 g2 g3 g4 g5 g6 g7 g8 g9 gn gl hU hA;obtain ⟨t0,t1,t2,t3⟩:=st_of H.out.st;have tf:=fr_at H.out.st;have tl:=(Array.getElem?_eq_some_iff.1 H.out.st).1;obtain ⟨k0,kn,kl⟩:=H.out.at 0 rfl;have k1:=cell_at k0 1;replace k0:=cell_at k0 0;simp at k0 k1;obtain ⟨g0,gn,gl⟩:=H.out.at 1 rfl;obtain ⟨g0,g1,g2,g3,g4,g5,g6,g7,g8,g9⟩:=rp_of g0;refine (sv_do (cl:=5) (c:=Nf.c3) H.out.sv (Nf.right_rx.1 Nf.right_2) (by unfold fits maxLen;decide) Nf.step3.1 Nf.step3.2.1 Nf.step3.2.2.1 Nf.step3.2.2.2).mono ?_;rintro e w4 ⟨ep4,en4,ec4,up4,un4,uc4,op4,on4,oc4,rfl,hs,-,hb⟩;replace H:Hid (Big W w4 A7 _ _ _ _ _ _ _ _):=H.out.call hb hs;clear t0 t1 t2 t3 tf tl k0 k1 kn kl g0 g1 g2 g3 g4 g5 g6 g7 g8 g9 gn gl hs hb;obtain ⟨t0,t1,t2,t3⟩:=st_of H.out.st;have tf:=fr_at H.out.st;have tl:=(Array.getElem?_eq_some_iff.1 H.out.st).1;obtain ⟨k0,kn,kl⟩:=H.out.at 0 rfl;have k1:=cell_at k0 1;replace k0:=cell_at k0 0;simp at k0 k1;obtain ⟨g0,gn,gl⟩:=H.out.at 1 rfl;obtain ⟨g0,g1,g2,g3,g4,g5,g6,g7,g8,g9⟩:=rp_of g0;go_wp2_with fail;obtain ⟨U4,hU⟩:=qF (((((w4.setCell ⟨A7,0,none⟩ (.slice up4 un4 uc4)).setCell ⟨A7,1,none⟩ (.slice op4 on4 oc4)).setCell ⟨A7,2,none⟩ (.slice none 0 0)).setCell ⟨A7,3,none⟩ (.int .i64 3)).alloc (BRl (Nf.bad 0) (.slice ep4 en4 ec4)));obtain ⟨B4,hA⟩:=qF w4.heap.size;replace H:Hid (Big W U4 A7 _ _ 3 _ _ _ _ _):=H.out.store (o:=BRl (Nf.bad 0) (.slice ep4 en4 ec4)) hU hA;rw [← hU,← hA];clear t0 t1 t2 t3 tf tl k0 k1 kn kl g0 g1 g2 g3 g4 g5 g6 g7 g8 g9 gn gl hU hA;obtain ⟨t0,t1,t2,t3⟩:=st_of H.out.st;have tf:=fr_at H.out.st
  have tl:=(Array.getElem?_eq_some_iff.1 H.out.st).1;obtain ⟨k0,kn,kl⟩:=H.out.at 0 rfl;have k1:=cell_at k0 1;replace k0:=cell_at k0 0;simp at k0 k1;obtain ⟨g0,gn,gl⟩:=H.out.at 1 rfl;obtain ⟨g0,g1,g2,g3,g4,g5,g6,g7,g8,g9⟩:=rp_of g0;refine (sv_do (cl:=5) (c:=Nf.c4) H.out.sv (Nf.right_rx.1 Nf.right_3) (by unfold fits maxLen;decide) Nf.step4.1 Nf.step4.2.1 Nf.step4.2.2.1 Nf.step4.2.2.2).mono ?_;rintro e w5 ⟨ep5,en5,ec5,up5,un5,uc5,op5,on5,oc5,rfl,hs,-,hb⟩;replace H:Hid (Big W w5 A7 _ _ _ _ _ _ _ _):=H.out.call hb hs;clear t0 t1 t2 t3 tf tl k0 k1 kn kl g0 g1 g2 g3 g4 g5 g6 g7 g8 g9 gn gl hs hb;obtain ⟨t0,t1,t2,t3⟩:=st_of H.out.st;have tf:=fr_at H.out.st;have tl:=(Array.getElem?_eq_some_iff.1 H.out.st).1;obtain ⟨k0,kn,kl⟩:=H.out.at 0 rfl;have k1:=cell_at k0 1;replace k0:=cell_at k0 0;simp at k0 k1;obtain ⟨g0,gn,gl⟩:=H.out.at 1 rfl;obtain ⟨g0,g1,g2,g3,g4,g5,g6,g7,g8,g9⟩:=rp_of g0;go_wp2_with fail;obtain ⟨U5,hU⟩:=qF (((((w5.setCell ⟨A7,0,none⟩ (.slice up5 un5 uc5)).setCell ⟨A7,1,none⟩ (.slice op5 on5 oc5)).setCell ⟨A7,2,none⟩ (.slice none 0 0)).setCell ⟨A7,3,none⟩ (.int .i64 4)).alloc (BRl ((⟨0,0,0,1,0,1,4,⟨#[]⟩,[],0⟩:Nf.Rpl)) (.slice ep5 en5 ec5)));obtain ⟨B5,hA⟩:=qF w5.heap.size;replace H:Hid (Big W U5 A7 _ _ 4 _ _ _ _ _):=H.out.store (o:=BRl ((⟨0,0,0,1,0,1,4,⟨#[]⟩,[],0⟩:Nf.Rpl)) (.slice ep5 en5 ec5)) hU hA;rw [← hU,← hA];clear t0 t1 t2 t3 tf tl k0 k1 kn kl g0 g1 g2 g3 g4 g5 g6 g7 g8 g9 gn gl hU hA;obtain ⟨t0,t1,t2,t3⟩:=st_of H.out.st;have tf:=fr_at H.out.st;have tl:=(Array.getElem?_eq_some_iff.1 H.out.st).1;obtain ⟨k0,kn,kl⟩:=H.out.at 0 rfl;have k1:=cell_at k0 1;replace k0:=cell_at k0 0;simp at k0 k1;obtain ⟨g0,gn,gl⟩:=H.out.at 1 rfl;obtain ⟨g0,g1,g2,g3,g4,g5,g6,g7,g8,g9⟩:=rp_of g0;refine (sv_do (cl:=5) (c:=Nf.c5) H.out.sv (Nf.right_rx.1 Nf.right_4) (by unfold fits maxLen;decide) Nf.step5.1 Nf.step5.2.1 Nf.step5.2.2.1 Nf.step5.2.2.2).mono ?_;rintro e w6 ⟨ep6,en6,ec6,up6,un6,uc6,op6,on6,oc6,rfl,hs,-,hb⟩;replace H:Hid (Big W w6 A7 _ _ _ _ _ _ _ _):=H.out.call hb hs
  clear t0 t1 t2 t3 tf tl k0 k1 kn kl g0 g1 g2 g3 g4 g5 g6 g7 g8 g9 gn gl hs hb;obtain ⟨t0,t1,t2,t3⟩:=st_of H.out.st;have tf:=fr_at H.out.st;have tl:=(Array.getElem?_eq_some_iff.1 H.out.st).1;obtain ⟨k0,kn,kl⟩:=H.out.at 0 rfl;have k1:=cell_at k0 1;replace k0:=cell_at k0 0;simp at k0 k1;obtain ⟨g0,gn,gl⟩:=H.out.at 1 rfl;obtain ⟨g0,g1,g2,g3,g4,g5,g6,g7,g8,g9⟩:=rp_of g0;obtain ⟨R6,hR6⟩:=qE (Nf.doR Nf.F5 [] 5 5 Nf.c6);have HR6:Hid (Nf.doR Nf.F5 [] 5 5 Nf.c6 = R6):=hR6;clear hR6;go_wp2_with fail;obtain ⟨U6,hU⟩:=qF (((((w6.setCell ⟨A7,0,none⟩ (.slice up6 un6 uc6)).setCell ⟨A7,1,none⟩ (.slice op6 on6 oc6)).setCell ⟨A7,2,none⟩ (.slice none 0 0)).setCell ⟨A7,3,none⟩ (.int .i64 5)).alloc (BRl (Nf.bad 0) (.slice ep6 en6 ec6)));obtain ⟨B6,hA⟩:=qF w6.heap.size;replace H:Hid (Big W U6 A7 _ _ 5 _ _ _ _ _):=H.out.store (o:=BRl (Nf.bad 0) (.slice ep6 en6 ec6)) hU hA;rw [← hU,← hA];clear t0 t1 t2 t3 tf tl k0 k1 kn kl g0 g1 g2 g3 g4 g5 g6 g7 g8 g9 gn gl hU hA;obtain ⟨t0,t1,t2,t3⟩:=st_of H.out.st;have tf:=fr_at H.out.st;have tl:=(Array.getElem?_eq_some_iff.1 H.out.st).1;obtain ⟨k0,kn,kl⟩:=H.out.at 0 rfl;have k1:=cell_at k0 1;replace k0:=cell_at k0 0;simp at k0 k1;obtain ⟨g0,gn,gl⟩:=H.out.at 1 rfl;obtain ⟨g0,g1,g2,g3,g4,g5,g6,g7,g8,g9⟩:=rp_of g0;refine (sv_do (cl:=5) (c:=Nf.c6) H.out.sv (Nf.right_rx.1 Nf.right_5) (by unfold fits maxLen;decide) HR6.out rfl rfl Nf.step6.2).mono ?_;rintro e w7 ⟨ep7,en7,ec7,up7,un7,uc7,op7,on7,oc7,rfl,hs,-,hb⟩;replace H:Hid (Big W w7 A7 _ _ _ _ _ _ _ _):=H.out.call hb hs;clear t0 t1 t2 t3 tf tl k0 k1 kn kl g0 g1 g2 g3 g4 g5 g6 g7 g8 g9 gn gl hs hb;obtain ⟨t0,t1,t2,t3⟩:=st_of H.out.st;have tf:=fr_at H.out.st;have tl:=(Array.getElem?_eq_some_iff.1 H.out.st).1;obtain ⟨k0,kn,kl⟩:=H.out.at 0 rfl;have k1:=cell_at k0 1;replace k0:=cell_at k0 0;simp at k0 k1;obtain ⟨g0,gn,gl⟩:=H.out.at 1 rfl;obtain ⟨g0,g1,g2,g3,g4,g5,g6,g7,g8,g9⟩:=rp_of g0;obtain ⟨z2,zn2,zl2⟩:=H.out.at 2 rfl;replace z2:=cell_at z2 0;simp at z2;obtain ⟨z3,zn3,zl3⟩:=H.out.at 3 rfl
  replace z3:=cell_at z3 0;simp at z3;obtain ⟨z4,zn4,zl4⟩:=H.out.at 4 rfl;replace z4:=cell_at z4 0;simp at z4;obtain ⟨z5,zn5,zl5⟩:=H.out.at 5 rfl;replace z5:=cell_at z5 0;simp at z5;have h6:R6.e = 401:=by rw [← HR6.out];exact Nf.step6.1
  have HZ:Hid (Bw w _):=HB0.out.trans ((H.out.store (D':=6) (o:=BRl R6 (.slice ep7 en7 ec7)) rfl rfl).bl.mono HB0.out.size);go_wp2;go_ret;refine ⟨rfl,?_⟩;rw [← h6];exact HZ.out
theorem rbytes_any {S:Nat->Prop} (v:Value) (L:List Rw) (w:World) (hv:TabAt S w v L) :
  Calls Tryz.prog 34 #[v] w fun e w'=>e = .returned (.int .i64 (allBytes (pl L)))/\Bw w w':=by
 obtain ⟨ao,cap,rfl,hm,hx⟩:=hv.open;clear hv;unfold maxLen at hm;obtain ⟨n,hn⟩:=qE L.length;rw [hn] at hm ⊢;have HN:Hid _:=hn;have HX:Hid _:=hx;clear hn hx;go_enter Tryz.func34,Tryz.ntmps34;go_wp2;go_loopw [3,10] (fun t i wr=>∃ (k:Nat) (y:Int),k<=n/\i = .int .i64 k/\t = .int .i64 y/\y = allBytes ((pl L).take k)/\Bw w wr) (fun _ i _=>n - (intOf i).toNat)
 case atStart=>exact ⟨0,0,Nat.zero_le _,rfl,rfl,rfl,Below.refl _ _⟩
 case round =>
  obtain ⟨k,y,hk,rfl,rfl,hy,hbl⟩:=hrel;have HY:Hid _:=hy;have hsz:=hbl.size;clear hy
  by_cases hlt:k < n
  ·obtain ⟨x,hxk⟩:∃ y,L[k]? = some y:=⟨_,List.getElem?_eq_getElem (by rw [HN.out];exact hlt)⟩;obtain ⟨⟨b,off,rfl,hB,hc⟩,hg⟩:=HX.out k x hxk;obtain ⟨d0,d1,d2,d3,d4,d5,d6,d7⟩:=hc.below hbl hB;have HS:Hid _:=bytes_succ (It.pl_get hxk);have HGX:Hid _:=hg.up hbl;have hrl:=hg.len.1;obtain ⟨X,hX⟩:=qF x;rw [← hX] at HS HGX;have hrr:(Value.slice x.rp x.rn x.rc) = .slice X.rp X.rn X.rc:=by rw [hX]
   have hri:x.i.runs = X.i.runs:=by rw [hX]
   rw [hri] at hrl;obtain ⟨⟨g,kk,l,s,t,rs,es,nx⟩,rp,rn,rc,ep,en,ec⟩:=x;simp only at d0 d1 d2 d3 d4 d5 d6 d7 hrr hrl;obtain ⟨W,hW⟩:=qF (wr.alloc (B8 g kk l s t (.slice rp rn rc) (.slice ep en ec) nx));have bW:Bw wr W:=by rw [hW];exact qG _ _
   have hFA:FieldsAt W.heap.size W (.slice rp rn rc) X.i.runs:=by
    rw [hrr];exact (HGX.out.1.up bW).fields
   obtain ⟨ao',cap',hv',hm',hxr⟩:=hFA.open;simp only [Value.slice.injEq] at hv';obtain ⟨rfl,-,rfl⟩:=hv';have HXR:Hid _:=hxr;have HRL:Hid _:=hrl;have hrn:rn<=9223372036854775807:=by unfold maxLen at hm';omega
   have HBW:Hid _:=hbl.trans (bW.mono hsz);have HYB:Hid (y = bytesAt (pl L) k 0 X.i):=by show y = bytesAt (pl L) k 0 X.i;rw [HY.out];rfl
   have hlt':(k:Int) < (n:Int):=by omega
   clear hxk hc hg hB hX hrr hri hFA hxr hm' hrl bW;go_wp2;rw [← hW];clear hW d0 d1 d2 d3 d4 d5 d6 d7 HY hbl hsz;go_loopw [3,17] (fun t i w2=>∃ (j:Nat) (z:Int),j<=rn/\i = .int .i64 j/\t = .int .i64 z/\z = bytesAt (pl L) k j X.i/\Bw W w2) (fun _ i _=>rn - (intOf i).toNat)
   case atStart=>exact ⟨0,y,Nat.zero_le _,rfl,rfl,HYB.out,Below.refl _ _⟩
   case round =>
    obtain ⟨j,z,hj,rfl,rfl,hz,hbl⟩:=hrel;have HZ:Hid _:=hz;have hsz:=hbl.size;clear hz
    by_cases hjl:j < rn
    ·obtain ⟨b2,off2,rfl,hB2,c0,c1⟩:=HXR.out j (by rw [← HRL.out];exact hjl);have hget:X.i.runs[j]? = some (X.i.runs.getD j (0,.empty)):=by simp [List.getD,show j < X.i.runs.length from by rw [← HRL.out];exact hjl]
     have HBS:=bytesAt_succ (L:=pl L) (k:=k) hget;rw [← hbl.cell (p:=⟨b2,off2 + j * 2,none⟩) hB2] at c0;rw [← hbl.cell (p:=⟨b2,off2 + j * 2 + 1,none⟩) hB2] at c1;generalize X.i.runs.getD j (0,.empty) = r at c0 c1 HBS hget;obtain ⟨ra,rd⟩:=r;simp only at c0 c1 HBS;have HBS2:Hid _:=HBS;have hjI:(j:Int) < (rn:Int):=by omega
     clear HBS hget hB2;go_wp2
     go_roundw
     case rel=>exact ⟨j + 1,_,by omega,by go_num,rfl,by rw [HBS2.out,← HZ.out],hbl.alloc hsz _⟩
     case measure=>simp [intOf];omega
    ·obtain rfl:j = rn:=by omega
     have HE:Hid (z = allBytes ((pl L).take (k + 1))):=by
      show z = _;rw [HZ.out,HS.out,HRL.out,bytesAt_end]
     have HBZ:=qJ HBW hbl;clear hbl hsz;go_wp2
     go_roundw
     case rel=>exact ⟨k + 1,_,by omega,by go_num,rfl,HE.out,HBZ.out⟩
     case measure=>simp [intOf];omega
  ·obtain rfl:k = n:=by omega
   have HE:Hid (y = allBytes (pl L)):=by
    have h:=HY.out;rw [List.take_of_length_le (by simp [pl,HN.out])] at h;exact h
   go_wp2;go_ret;exact ⟨by rw [HE.out];rfl,hbl⟩
end Go.Proofs.YtneojimodomohaaGreat
