/- Se, Sf, NBx, Sr, as one. -/
import Derived.Test.YtneojimodomohaaGreatP2
namespace Go.Proofs.YtneojimodomohaaGreat
open It Go.RowKit
set_option maxRecDepth 100000
set_option maxRecDepth 100000
namespace Nf
theorem top_le {L:List Ino} {m:Int} (h0:0<=m) (h:∀ x∈L,x.stamp<=m):Sp.top L<=m:=by
 have go:∀ (L:List Ino) (a:Int),a<=m->(∀ x∈L,x.stamp<=m)->L.foldl (fun m x=>max m x.stamp) a<=m:=by
  intro L
  induction L with
  | nil=>exact fun a h _=>h
  | cons x l ih=>exact fun a ha h=>ih (max a x.stamp) (by have:=h x (by simp);omega) (fun y hy=>h y (by simp [hy]))
 exact go L 0 h0 h
theorem tot_within (a b:Int):∀ (l:List (Int × ByteArray)),tot (Bs.Bl.within a b l)<=tot l
 | []=>Nat.le_refl _
 | r :: l => by
  have ih:tot (Bs.Bl.within a b l)<=tot l:=tot_within a b l
  have e:tot (r :: l) = r.2.size + tot l:=by simp [Bs.Bl.total]
  rw [e]
  cases hq:Bs.Bl.clip a b r with
  | none =>
   have e2:Bs.Bl.within a b (r :: l) = Bs.Bl.within a b l:=by simp [Bs.Bl.within,hq]
   rw [e2]
   omega
  | some q =>
   have e2:Bs.Bl.within a b (r :: l) = q :: Bs.Bl.within a b l:=by simp [Bs.Bl.within,hq]
   have e3:tot (q :: Bs.Bl.within a b l) = q.2.size + tot (Bs.Bl.within a b l):=by simp [Bs.Bl.total]
   rw [e2,e3]
   obtain ⟨q1,q2,q3⟩:=Bs.Bl.clip_some hq
   unfold Bs.Bl.rend at q2
   omega
theorem fnd_zero {L:List Ino} {a b kind e:Int} (h:fndE L a b kind e = 0) (he:e≠0):∃ (k:Nat) (x:Ino),a = k/\L[k]? = some x/\x.gen = b/\x.kind = kind/\findI L a b = x/\findErr L a b = 0:=by
 unfold fndE at h
 by_cases hf:findErr L a b = 0
 ·rw [if_pos hf] at h
  obtain ⟨k,x,hk,hx,hg,_,hi,_⟩:=Sp.find_get hf
  rw [hi] at h
  by_cases hk2:x.kind = kind
  ·exact ⟨k,x,hk,hx,hg,hk2,hi,hf⟩
  ·rw [if_neg hk2] at h
   exact absurd h he
 ·rw [if_neg hf] at h
  exact absurd h hf
theorem fnd_ok {L:List Ino} {k:Nat} {x:Ino} {e:Int} (hr:It.right L = true) (hx:L[k]? = some x) (hk:x.kind≠0):fndE L k x.gen x.kind e = 0/\findErr L k x.gen = 0/\findI L k x.gen = x:=by
 have hf:findErr L k x.gen = 0:=by
  rw [find_err hr,if_pos (names_iff.2 ⟨k,x,hx,rfl,rfl,hk⟩)]
 have hi:=Sp.find_same hf rfl hx
 refine ⟨?_,hf,hi⟩
 unfold fndE
 rw [if_pos hf,hi,if_pos rfl]
theorem file_bd {x:Ino} (h:one x = true) (hk:x.kind = 1):x.ents = []/\x.next = 0/\Bl.right (-1) x.runs/\Bl.endOf x.runs<=x.size/\(0<=x.size/\x.size<=1048576)/\(0<=x.links/\x.links<=64)/\(0<=x.stamp/\x.stamp<=1099511627776):=by
 have h0:=h
 unfold one at h
 simp only [Bool.and_eq_true] at h
 have h3:=h.2.2
 rw [if_neg (by omega),if_pos hk] at h3
 simp only [Bool.and_eq_true,decide_eq_true_eq] at h3
 have ha:=At.right_iff.1 h.2.1
 unfold At.rightP at ha
 exact ⟨List.isEmpty_iff.1 h3.1.1.1,h3.1.1.2,h3.1.2,h3.2,by omega,by omega,by omega⟩
theorem one_file' {x y:Ino} (h:one x = true) (hk:x.kind = 1) (h1:y.gen = x.gen) (h2:y.kind = 1) (h3:y.links = x.links) (h4:y.ents = x.ents) (h5:y.next = x.next) (h6:0<=y.stamp/\y.stamp<=1099511627776) (h7:y.size<=1048576) (h8:Bl.right (-1) y.runs) (h9:Bl.endOf y.runs<=y.size) (h10:0<=y.size):one y = true:=by
 obtain ⟨b1,b2,b3,b4,b5,b6,b7⟩:=file_bd h hk
 have hbd:=one_bd h
 obtain ⟨g,k,l,s,t,rs,es,nx⟩:=y
 simp only at h1 h2 h3 h4 h5 h6 h7 h8 h9 h10
 subst h2
 rw [one_file (by omega) (At.right_iff.2 (by unfold At.rightP;omega))]
 simp only [Bool.and_eq_true,decide_eq_true_eq]
 exact ⟨⟨⟨by rw [h4,b1];rfl,by omega⟩,h8⟩,h9⟩
noncomputable abbrev wrY (x:Ino) (c:Cal) (dn:Int):Ino:={ x with size:=wrN x c,stamp:=dn,runs:=Bs.Bl.write x.runs c.pl c.data }
structure WrOk (L:List Ino) (c:Cal) (k:Nat) (x:Ino):Prop where
 no:c.no = k
 hx:L[k]? = some x
 gen:x.gen = c.gen
 kind:x.kind = 1
 d0:c.data.size≠0
 d1:c.data.size<=512
 p0:0<=c.pl
 p1:c.pl + (c.data.size:Int)<=1048576
 room:By L + tot (Bs.Bl.write x.runs c.pl c.data)<=8192 + tot x.runs
theorem tot_mem {L:List Ino} {k:Nat} {x:Ino} (hx:L[k]? = some x):tot x.runs<=By L:=by
 have h:=By_set L k x zeroI hx
 have e:tot zeroI.runs = 0:=rfl
 omega
theorem wr_room {L:List Ino} {k:Nat} {x:Ino} {c:Cal} (hr:It.right L = true) (hb:By L<=8192) (hx:L[k]? = some x) (hw:Bs.Bl.wErr x.runs c.pl c.data = 0):Bs.Bl.wOut x.runs c.pl c.data = Bs.Bl.write x.runs c.pl c.data/\Bl.right (-1) (Bs.Bl.write x.runs c.pl c.data)/\room L x c = (By L:Int) - tot x.runs + tot (Bs.Bl.write x.runs c.pl c.data):=by
 obtain ⟨h1,h2,h3⟩:=Bs.Bl.wErr_ok hw
 have hwr:=(br _ _).1 (Bs.Bl.write_right h1 h2 h3)
 have e:Bs.Bl.wOut x.runs c.pl c.data = Bs.Bl.write x.runs c.pl c.data:=by unfold Bs.Bl.wOut;rw [if_pos hw]
 refine ⟨e,hwr,?_⟩
 have hm:=tot_mem hx
 have ht:=tot_le hwr
 unfold room wrO
 rw [e,all_by hr,sumw_tot ((br _ _).1 h1),sumw_tot hwr,wrap_id (x:=(By L:Int) - tot x.runs) (by omega),wrap_id (by omega)]
theorem wr_y {L:List Ino} {O:List Os.Opn} {dn:Int} {k:Nat} {x:Ino} {c:Cal} (h:RX L O dn (fun _=>False)) (hd:dn + 1<=1099511627776) (g:WrOk L c k x):Bs.Bl.wErr x.runs c.pl c.data = 0/\one (wrY x c (dn + 1)) = true/\wrX x c (dn + 1) = wrY x c (dn + 1)/\RX (L.set k (wrY x c (dn + 1))) O (dn + 1) (fun _=>False):=by
 have hr:=(Sp.isSp_iff.1 h.sp).1
 have h1x:=(It.right_iff.1 hr).2.2 x (List.mem_of_getElem? g.hx)
 have h0:=h.dn.1
 obtain ⟨b1,b2,b3,b4,b5,b6,b7⟩:=file_bd h1x g.kind
 have hw:Bs.Bl.wErr x.runs c.pl c.data = 0:=by
  unfold Bs.Bl.wErr
  rw [if_pos ((br _ _).2 b3),if_neg (by have:=g.p0;omega),if_neg (by have:=g.p1;omega)]
 obtain ⟨e1,e2,e3⟩:=wr_room hr h.by8 g.hx hw
 have hN:wrN x c = max x.size (Bl.endOf (Bs.Bl.write x.runs c.pl c.data)):=by unfold wrN wrO;rw [e1,bend]
 have hE:Bl.endOf (Bs.Bl.write x.runs c.pl c.data)<=1048576:=by
  unfold Bl.endOf
  rw [if_pos e2]
  rcases Bl.snoc_cases (Bs.Bl.write x.runs c.pl c.data) with h | ⟨m,s,h⟩
  ·rw [h];decide
  ·rw [h,Bl.lastEnd_append]
   rw [h] at e2
   exact (Bl.right_mem e2 s (by simp)).2.2
 have hone:one (wrY x c (dn + 1)) = true:=one_file' h1x g.kind rfl g.kind rfl rfl rfl (by show 0<=dn + 1/\dn + 1<=1099511627776;omega) (by show wrN x c<=_;omega) e2 (by show _<=wrN x c;rw [hN];exact Int.le_max_right _ _) (by show 0<=wrN x c;omega)
 have hg:gE x (wrN x c) (dn + 1) = 0:=Sp.grow_ok hr g.hx (by have:=g.kind;omega) ⟨top_le (by omega) fun z hz=>by have:=h.dn.2 z hz;omega,by omega⟩ (by omega)
 refine ⟨hw,hone,?_,rx_put h hd g.hx g.kind hone rfl g.kind rfl rfl ?_⟩
 ·unfold wrX
  rw [if_pos hg]
  unfold wrO
  rw [e1]
 ·have hb:=By_set L k x (wrY x c (dn + 1)) g.hx
  have e:tot (wrY x c (dn + 1)).runs = tot (Bs.Bl.write x.runs c.pl c.data):=rfl
  have:=g.room
  omega
theorem wr_ok {L:List Ino} {O:List Os.Opn} {dn:Int} {k:Nat} {x:Ino} {c:Cal} (h:RX L O dn (fun _=>False)) (hd:dn + 1<=1099511627776) (g:WrOk L c k x):wrT L c (dn + 1) = L.set k (wrY x c (dn + 1))/\(wrP L c (dn + 1)).e = 0:=by
 have hr:=(Sp.isSp_iff.1 h.sp).1
 obtain ⟨hw,hone,hX,_⟩:=wr_y h hd g
 obtain ⟨f1,f2,f3⟩:=fnd_ok (e:=405) hr g.hx (by have:=g.kind;omega)
 rw [g.kind] at f1
 obtain ⟨e1,e2,e3⟩:=wr_room hr h.by8 g.hx hw
 have hroom:=g.room
 have hp:=Sp.putTab_set (y:=wrY x c (dn + 1)) f2 g.hx rfl (by show x.kind≠0;have:=g.kind;omega) hone rfl
 unfold wrT wrP ptT
 rw [g.no,← g.gen,f1,f3,hX,hw,hp.1,hp.2,if_neg (by decide),if_neg (by have:=g.d1;omega),if_neg (by decide),if_neg g.d0,if_neg (by omega),if_pos rfl,if_neg (by decide),if_neg (by have:=g.d1;omega),if_neg (by decide),if_neg g.d0,if_neg (by omega)]
 exact ⟨rfl,rfl⟩
theorem wr_or {L:List Ino} {O:List Os.Opn} {dn:Int} {c:Cal} (h:RX L O dn (fun _=>False)) (dm:Int):(wrT L c dm = L/\((wrP L c dm).e≠0->wrP L c dm = bad (wrP L c dm).e))∨∃ k x,WrOk L c k x:=by
 have hr:=(Sp.isSp_iff.1 h.sp).1
 by_cases h1:fndE L c.no c.gen 1 405 = 0
 ·by_cases h2:512 < c.data.size
  ·left
   unfold wrT wrP
   rw [if_neg (by simpa using h1),if_pos h2,if_neg (by simpa using h1),if_pos h2]
   exact ⟨rfl,fun _=>rfl⟩
  ·obtain ⟨k,x,hno,hx,hg,hk,hi,hf⟩:=fnd_zero h1 (by decide)
   by_cases h3:Bs.Bl.wErr x.runs c.pl c.data = 0
   ·by_cases h4:c.data.size = 0
    ·left
     unfold wrT wrP
     rw [hi,if_neg (by simpa using h1),if_neg h2,if_neg (by simpa using h3),if_pos h4,if_neg (by simpa using h1),if_neg h2,if_neg (by simpa using h3),if_pos h4]
     exact ⟨rfl,fun h=>absurd rfl h⟩
    ·by_cases h5:8192 < room L x c
     ·left
      unfold wrT wrP
      rw [hi,if_neg (by simpa using h1),if_neg h2,if_neg (by simpa using h3),if_neg h4,if_pos h5,if_neg (by simpa using h1),if_neg h2,if_neg (by simpa using h3),if_neg h4,if_pos h5]
      exact ⟨rfl,fun _=>rfl⟩
     ·right
      obtain ⟨w1,w2,w3⟩:=Bs.Bl.wErr_ok h3
      obtain ⟨e1,e2,e3⟩:=wr_room hr h.by8 hx h3
      have hm:=tot_mem hx
      exact ⟨k,x,hno,hx,hg,hk,h4,by omega,w2,w3,by omega⟩
   ·left
    unfold wrT wrP
    rw [hi,if_neg (by simpa using h1),if_neg h2,if_pos h3,if_neg (by simpa using h1),if_neg h2,if_pos h3]
    exact ⟨rfl,fun _=>rfl⟩
 ·left
  unfold wrT wrP
  rw [if_pos h1,if_pos h1]
  exact ⟨rfl,fun _=>rfl⟩
structure CuOk (L:List Ino) (c:Cal) (k:Nat) (x:Ino):Prop where
 no:c.no = k
 hx:L[k]? = some x
 gen:x.gen = c.gen
 kind:x.kind = 1
 p0:0<=c.pl
 p1:c.pl<=1048576
abbrev cuY (x:Ino) (c:Cal) (dn:Int):Ino:={ x with size:=c.pl,stamp:=dn,runs:=Bs.Bl.within 0 c.pl x.runs }
theorem cu_ok {L:List Ino} {O:List Os.Opn} {dn:Int} {k:Nat} {x:Ino} {c:Cal} (h:RX L O dn (fun _=>False)) (hd:dn + 1<=1099511627776) (g:CuOk L c k x):cuT L c (dn + 1) = L.set k (cuY x c (dn + 1))/\(cuP L c (dn + 1)).e = 0/\RX (L.set k (cuY x c (dn + 1))) O (dn + 1) (fun _=>False):=by
 have hr:=(Sp.isSp_iff.1 h.sp).1
 have h1x:=(It.right_iff.1 hr).2.2 x (List.mem_of_getElem? g.hx)
 have h0:=h.dn.1
 have hp0:=g.p0
 have hp1:=g.p1
 obtain ⟨b1,b2,b3,b4,b5,b6,b7⟩:=file_bd h1x g.kind
 have hcr:Bl.right (-1) (Bs.Bl.within 0 c.pl x.runs):=(br _ _).1 (cut_right ((br _ _).2 b3))
 have hce:Bs.Bl.cOut x.runs c.pl = Bs.Bl.within 0 c.pl x.runs:=by
  unfold Bs.Bl.cOut Bs.Bl.cErr
  rw [if_pos ((br _ _).2 b3),if_neg (show ¬ c.pl < 0 by omega),if_pos rfl]
 have hE:Bl.endOf (Bs.Bl.within 0 c.pl x.runs)<=c.pl:=by
  unfold Bl.endOf
  rw [if_pos hcr,← ble]
  exact Bs.Bl.lastEnd_within _ _ _ hp0
 have hone:one (cuY x c (dn + 1)) = true:=one_file' h1x g.kind rfl g.kind rfl rfl rfl (by show 0<=dn + 1/\dn + 1<=1099511627776;omega) hp1 hcr hE hp0
 have hg:gE x c.pl (dn + 1) = 0:=Sp.grow_ok hr g.hx (by have:=g.kind;omega) ⟨top_le (by omega) fun z hz=>by have:=h.dn.2 z hz;omega,by omega⟩ (by omega)
 have hX:cuX x c (dn + 1) = cuY x c (dn + 1):=by unfold cuX;rw [hce]
 obtain ⟨f1,f2,f3⟩:=fnd_ok (e:=405) hr g.hx (by have:=g.kind;omega)
 rw [g.kind] at f1
 have hp:=Sp.putTab_set (y:=cuY x c (dn + 1)) f2 g.hx rfl (by show x.kind≠0;have:=g.kind;omega) hone rfl
 refine ⟨?_,?_,rx_put h hd g.hx g.kind hone rfl g.kind rfl rfl ?_⟩
 ·unfold cuT ptT
  rw [g.no,← g.gen,f1,f3,hX,hg,if_pos rfl,if_pos rfl,hp.1,if_pos rfl,hp.2]
 ·unfold cuP
  rw [g.no,← g.gen,f1,f3,hX,hg,if_pos rfl,if_pos rfl,hp.1]
 ·have hb:=By_set L k x (cuY x c (dn + 1)) g.hx
  have ht:=tot_within 0 c.pl x.runs
  have e:tot (cuY x c (dn + 1)).runs = tot (Bs.Bl.within 0 c.pl x.runs):=rfl
  have:=h.by8
  omega
theorem cu_or {L:List Ino} {c:Cal} (dm:Int):(cuT L c dm = L/\cuP L c dm = bad (cuP L c dm).e/\(cuP L c dm).e≠0)∨∃ k x,CuOk L c k x:=by
 by_cases h1:fndE L c.no c.gen 1 405 = 0
 ·obtain ⟨k,x,hno,hx,hg,hk,hi,hf⟩:=fnd_zero h1 (by decide)
  by_cases h2:gE x c.pl dm = 0
  ·right
   have h5:0<=c.pl/\c.pl<=1048576:=by
    unfold gE At.growErr at h2
    split at h2
    ·split at h2
     ·split at h2
      ·exact absurd h2 (by decide)
      ·split at h2
       ·assumption
       ·exact absurd h2 (by decide)
     ·exact absurd h2 (by decide)
    ·exact absurd h2 (by decide)
   exact ⟨k,x,hno,hx,hg,hk,h5.1,h5.2⟩
  ·left
   unfold cuT cuP
   rw [if_pos h1,hi,if_neg h2,if_pos h1,if_neg h2]
   exact ⟨rfl,rfl,h2⟩
 ·left
  unfold cuT cuP
  rw [if_neg h1,if_neg h1]
  exact ⟨rfl,rfl,h1⟩
end Nf
namespace Nf
theorem drop_zero {T:List Ino} {k:Nat} {y:Ino} (hr:It.right T = true) (hy:T[k]? = some y) (hk:y.kind = 1) (h0:k≠0):dropErr T k y.gen = 0/\dropTab T k y.gen = T.set k (gone y.gen):=by
 obtain ⟨f1,f2,f3⟩:=fnd_ok (e:=405) hr hy (by omega)
 have hd:dropErr T k y.gen = 0:=by unfold dropErr;rw [if_pos f2,if_neg (by omega)]
 refine ⟨hd,?_⟩
 unfold dropTab
 rw [if_pos hd,show ((k:Int)).toNat = k by omega,Sp.put_set hy]
theorem links_low {T:List Ino} {k:Nat} {y:Ino} (hr:It.right T = true) (hy:T[k]? = some y) (hk:y.kind = 1):0<=y.links:=(file_bd ((It.right_iff.1 hr).2.2 y (List.mem_of_getElem? hy)) hk).2.2.2.2.2.1.1
theorem rel_rx {T:List Ino} {O:List Os.Opn} {dn:Int} {k:Nat} {y:Ino} (h:RX T O dn (fun i=>i = k)) (hy:T[k]? = some y) (hk:y.kind = 1):reE T O ((k:Int),y.gen) = 0/\RX (reT T O ((k:Int),y.gen)) O dn (fun _=>False)/\((reT T O ((k:Int),y.gen)) = T∨(y.links = 0/\reT T O ((k:Int),y.gen) = T.set k (gone y.gen))):=by
 have hr:=(Sp.isSp_iff.1 h.sp).1
 have h0:k≠0:=by
  rintro rfl
  have:=Sp.root_kind hr hy
  omega
 unfold reE reT
 cases hb:needB T O ((k:Int),y.gen) with
 | true =>
  refine ⟨rfl,rx_all h fun x hx hk' hl=>?_,.inl rfl⟩
  rw [if_pos rfl] at *
  rw [hy] at hx
  cases hx
  rcases (need_iff hy).1 hb with h1 | h1
  ·omega
  ·exact h1
 | false =>
  obtain ⟨d1,d2⟩:=drop_zero hr hy hk h0
  have hn:¬ (0 < y.links∨Hl O k y.gen):=fun hq=>by
   rw [(need_iff hy).2 hq] at hb
   cases hb
  have hl:y.links = 0:=by
   have:=links_low hr hy hk
   have:¬ 0 < y.links:=fun h=>hn (.inl h)
   omega
  refine ⟨d1,?_,.inr ⟨hl,?_⟩⟩
  ·show RX (if dropErr T k y.gen = 0 then dropTab T k y.gen else T) O dn _
   rw [if_pos d1,d2]
   exact rx_drop h hy hk hl fun hq=>hn (.inr hq)
  ·show (if dropErr T k y.gen = 0 then dropTab T k y.gen else T) = _
   rw [if_pos d1,d2]
theorem close_rx {L:List Ino} {O:List Os.Opn} {dn cl fd:Int} (h:RX L O dn (fun _=>False)) (hc:Os.Op.closeErr O cl fd = 0):∃ (k:Nat) (x:Ino),Os.Op.closeOf O cl fd = ((k:Int),x.gen)/\L[k]? = some x/\x.kind = 1/\RX L (Os.Op.closed O cl fd) dn (fun i=>i = k):=by
 unfold Os.Op.closeErr at hc
 unfold Os.Op.closeOf Os.Op.closed
 by_cases ha:Os.Op.ask O cl = 0
 ·rw [if_pos ha] at hc ⊢
  rw [if_pos ha]
  cases hf:O.find? (Os.Op.mine cl fd) with
  | none =>
   rw [hf] at hc
   exact absurd hc (by decide)
  | some o =>
   have hm:=List.mem_of_find?_eq_some hf
   have hmm:=List.find?_some hf
   obtain ⟨k,x,hx,hno,hg,hk⟩:=h.fl o hm
   refine ⟨k,x,Prod.ext hno hg.symm,hx,hk,h.sp,?_,?_,?_,h.by8,h.dn⟩
   ·show Os.Op.right 0 (Os.Op.without O [o]) = true
    rw [Os.Op.without_one h.os hf]
    obtain ⟨r1,r2⟩:=(Os.Op.right_iff O 0).1 h.os
    exact (Os.Op.right_iff _ 0).2 ⟨fun z hz=>r1 z (List.mem_filter.1 hz).1,r2.sublist List.filter_sublist⟩
   ·intro z hz
    show _
    have hz':z∈Os.Op.without O [o]:=hz
    rw [Os.Op.without_one h.os hf] at hz'
    exact h.fl z (List.mem_filter.1 hz').1
   ·intro i z hz hkz hlz hik
    obtain ⟨p,hp,hp1,hp2⟩:=h.nd i z hz hkz hlz id
    refine ⟨p,?_,hp1,hp2⟩
    show p∈Os.Op.without O [o]
    rw [Os.Op.without_one h.os hf]
    refine List.mem_filter.2 ⟨hp,?_⟩
    cases hq:Os.Op.mine cl fd p with
    | false=>rfl
    | true =>
     exfalso
     have:=Os.Op.mine_one h.os hp hm hq hmm
     subst this
     exact hik (by omega)
 ·rw [if_neg ha] at hc
  exact absurd hc ha
theorem open_rx {L:List Ino} {O:List Os.Opn} {dn cl:Int} {k:Nat} {x:Ino} (h:RX L O dn (fun _=>False)) (hx:L[k]? = some x) (hk:x.kind = 1) (ho:Os.Op.openErr O cl k x.gen = 0):RX L (Os.Op.opened O cl k x.gen) dn (fun _=>False):=by
 have hf:=Os.Op.op_facts ho
 have hmem:∀ z,z∈Os.Op.opened O cl k x.gen ↔ z∈O∨z = ((Os.Op.least 0 O:Int),cl,(k:Int),x.gen):=fun z=>by
  rw [hf.2.2.2.2.2.1]
  have e:z∈O ↔ z∈O.take (Os.Op.least 0 O)∨z∈O.drop (Os.Op.least 0 O):=by
   rw [← List.mem_append,List.take_append_drop]
  rw [List.mem_append,List.mem_append,List.mem_singleton,e]
  constructor
  ·rintro ((h1 | h1) | h1)
   ·exact .inl (.inl h1)
   ·exact .inr h1
   ·exact .inl (.inr h1)
  ·rintro ((h1 | h1) | h1)
   ·exact .inl (.inl h1)
   ·exact .inr h1
   ·exact .inl (.inr h1)
 refine ⟨h.sp,Os.Op.op_right ho,fun z hz=>?_,fun i z hz h1 h2 h3=>?_,h.by8,h.dn⟩
 ·rcases (hmem z).1 hz with h1 | h1
  ·exact h.fl z h1
  ·rw [h1]
   exact ⟨k,x,hx,rfl,rfl,hk⟩
 ·obtain ⟨p,hp,hp1⟩:=h.nd i z hz h1 h2 h3
  exact ⟨p,(hmem p).2 (.inl hp),hp1⟩
def PP (L:List Ino) (c:Cal) (e:Ent):Prop:=e.1 = c.nm/\(c.k = 9∨c.k = 11∨∃ x,L[e.2.2.1.toNat]? = some x/\x.kind = 2)
def Did (L:List Ino) (dn:Int) (c:Cal) (T:List Ino):Prop :=
 T = L∨(∃ kt,Chg L T dn kt (PP L c))∨(∃ (k:Nat) (x y:Ino),L[k]? = some x/\x.kind = 1/\c.no = k/\c.gen = x.gen/\T = L.set k y) ∨
  ∃ (kt:Nat) (T1:List Ino) (y:Ino),Sp.isSp T1 = true/\(T1 = L∨Chg L T1 dn kt (PP L c))/\T1[kt]? = some y/\y.kind = 1/\y.links = 0/\T = T1.set kt (gone y.gen)
theorem Chg.mono {L T:List Ino} {st:Int} {kt:Nat} {P Q:Ent->Prop} (c:Chg L T st kt P) (h:∀ e,P e->Q e):Chg L T st kt Q:=⟨c.sp,c.len,fun i x hx=>by
 obtain ⟨x',h1,h2⟩:=c.old i x hx
 refine ⟨x',h1,?_⟩
 rcases h2 with ⟨a1,a2,a3,a4,a5,a6,a7⟩ | h2 | h2
 ·exact .inl ⟨a1,a2,a3,a4,a5,a6,fun e he=>(a7 e he).imp id (h e)⟩
 ·exact .inr (.inl h2)
 ·exact .inr (.inr h2),c.new⟩
structure Out (L:List Ino) (O:List Os.Opn) (dn:Int) (c:Cal) (T:List Ino) (Q:List Os.Opn) (R:Rpl):Prop where
 rx:RX T Q dn (fun _=>False)
 did:Did L dn c T
 err:R.e≠0->T = L/\Q = O/\R = bad R.e
section
variable {L:List Ino} {O:List Os.Opn} {dn:Int} {c:Cal}
theorem out_still {R:Rpl} (h:RX L O dn (fun _=>False)) (hd:dn + 1<=1099511627776) (hR:R.e≠0->R = bad R.e):Out L O (dn + 1) c L O R:=⟨rx_more h hd,.inl rfl,fun he=>⟨rfl,rfl,hR he⟩⟩
theorem out_chg {T:List Ino} {R:Rpl} (h:RX L O dn (fun _=>False)) (hd:dn + 1<=1099511627776) (hT:Chg L T (dn + 1) 0 (PP L c)) (hR:R.e = 0):Out L O (dn + 1) c T O R :=
 ⟨rx_all (rx_chg h hd hT) fun x hx hk=>by
  have:=Sp.root_kind (Sp.isSp_iff.1 hT.sp).1 hx
  omega,.inr (.inl ⟨0,hT⟩),fun he=>absurd hR he⟩
theorem told_bad {E no gen:Int} {x:Ino}:(told E no gen x).e≠0->told E no gen x = bad (told E no gen x).e:=by
 unfold told
 split
 ·exact fun h=>absurd rfl h
 ·exact fun _=>rfl
theorem told_e {E no gen:Int} {x:Ino}:(told E no gen x).e = E:=by
 unfold told
 split
 ·rename_i h
  exact h.symm
 ·rfl
theorem out_make {kind:Int} (h:RX L O dn (fun _=>False)) (hd:dn + 1<=1099511627776):Out L O (dn + 1) c (makeT L c kind (dn + 1)) O (makeP L c kind (dn + 1)):=by
 unfold makeT makeP
 by_cases he:Sp.mkE (Sp.chk Sp.isSp) L c.no c.gen c.nm kind (dn + 1) = 0
 ·rw [if_pos he]
  exact out_chg h hd ((make_chg he).mono fun _ h=>h.elim) (told_e.trans he)
 ·rw [if_neg he]
  exact out_still h hd told_bad
theorem out_link (h:RX L O dn (fun _=>False)) (hd:dn + 1<=1099511627776):Out L O (dn + 1) c (lkT L c (dn + 1)) O (linkP L c (dn + 1)):=by
 unfold linkP
 by_cases he:lkE L c (dn + 1) = 0
 ·unfold lkT
  rw [if_pos he,he]
  unfold lkE at he
  exact out_chg h hd ((link_chg he).mono fun _ h=>h.elim) told_e
 ·rw [show lkT L c (dn + 1) = L from by unfold lkT;rw [if_neg he]]
  exact out_still h hd told_bad
theorem out_unlink (hk:c.k = 9) (h:RX L O dn (fun _=>False)) (hd:dn + 1<=1099511627776):Out L O (dn + 1) c (unT L O c.no c.gen c.nm (dn + 1)) O (bad (unE L O c.no c.gen c.nm (dn + 1))):=by
 unfold unT unE
 by_cases he:Sp.ulE (Sp.chk Sp.isSp) L c.no c.gen c.nm (dn + 1) = 0
 ·rw [if_pos he,if_pos he]
  obtain ⟨kt,y,hH,hy,hky,h0,hc⟩:=unlink_chg he
  have hc':Chg L _ (dn + 1) kt (PP L c):=hc.mono fun e h=>⟨h,.inl hk⟩
  rw [hH]
  obtain ⟨r1,r2,r3⟩:=rel_rx (rx_chg h hd hc') hy hky
  refine ⟨r2,?_,fun hq=>absurd r1 hq⟩
  rcases r3 with r3 | ⟨r3,r4⟩
  ·rw [r3]
   exact .inr (.inl ⟨kt,hc'⟩)
  ·exact .inr (.inr (.inr ⟨kt,_,y,hc.sp,.inr hc',hy,hky,r3,r4⟩))
 ·rw [if_neg he,if_neg he]
  exact out_still h hd fun _=>rfl
theorem out_rmdir (h:RX L O dn (fun _=>False)) (hd:dn + 1<=1099511627776):Out L O (dn + 1) c (rdT L c.no c.gen c.nm (dn + 1)) O (bad (Sp.rmE (Sp.chk Sp.isSp) L c.no c.gen c.nm (dn + 1))):=by
 unfold rdT
 by_cases he:Sp.rmE (Sp.chk Sp.isSp) L c.no c.gen c.nm (dn + 1) = 0
 ·rw [if_pos he]
  exact out_chg h hd ((rmdir_chg he).mono fun e h=>⟨h.1,.inr (.inr h.2)⟩) he
 ·rw [if_neg he]
  exact out_still h hd fun _=>rfl
theorem out_rename (hk:c.k = 11) (h:RX L O dn (fun _=>False)) (hd:dn + 1<=1099511627776):Out L O (dn + 1) c (rnT L c.no c.gen c.nm c.no2 c.gen2 c.nm2 (dn + 1)) O (bad (Sp.rnE (Sp.chk Sp.isSp) Sp.insB L c.no c.gen c.nm c.no2 c.gen2 c.nm2 (dn + 1))):=by
 unfold rnT
 by_cases he:Sp.rnE (Sp.chk Sp.isSp) Sp.insB L c.no c.gen c.nm c.no2 c.gen2 c.nm2 (dn + 1) = 0
 ·rw [if_pos he]
  exact out_chg h hd ((rename_chg he).mono fun e h=>⟨h,.inr (.inl hk)⟩) he
 ·rw [if_neg he]
  exact out_still h hd fun _=>rfl
theorem out_write (h:RX L O dn (fun _=>False)) (hd:dn + 1<=1099511627776):Out L O (dn + 1) c (wrT L c (dn + 1)) O (wrP L c (dn + 1)):=by
 rcases wr_or (c:=c) h (dn + 1) with ⟨h1,h2⟩ | ⟨k,x,g⟩
 ·rw [h1]
  exact out_still h hd h2
 ·obtain ⟨e1,e2⟩:=wr_ok h hd g
  rw [e1]
  exact ⟨(wr_y h hd g).2.2.2,.inr (.inr (.inl ⟨k,x,_,g.hx,g.kind,g.no,g.gen.symm,rfl⟩)),fun he=>absurd e2 he⟩
theorem out_cut (h:RX L O dn (fun _=>False)) (hd:dn + 1<=1099511627776):Out L O (dn + 1) c (cuT L c (dn + 1)) O (cuP L c (dn + 1)):=by
 rcases cu_or (c:=c) (L:=L) (dn + 1) with ⟨h1,h2,_⟩ | ⟨k,x,g⟩
 ·rw [h1]
  exact out_still h hd fun _=>h2
 ·obtain ⟨e1,e2,e3⟩:=cu_ok h hd g
  rw [e1]
  exact ⟨e3,.inr (.inr (.inl ⟨k,x,_,g.hx,g.kind,g.no,g.gen.symm,rfl⟩)),fun he=>absurd e2 he⟩
theorem out_open {cl:Int} (h:RX L O dn (fun _=>False)) (hd:dn + 1<=1099511627776):Out L O (dn + 1) c L (if opE L O cl c = 0 then Os.Op.opened O cl c.no c.gen else O) (openP L O cl c):=by
 by_cases he:opE L O cl c = 0
 ·rw [if_pos he]
  have h1:fndE L c.no c.gen 1 405 = 0:=by
   unfold opE at he
   by_cases h1:fndE L c.no c.gen 1 405 = 0
   ·exact h1
   ·rw [if_neg h1] at he
    exact absurd he h1
  have h2:=he
  unfold opE at h2
  rw [if_pos h1] at h2
  obtain ⟨k,x,hno,hx,hg,hk,hi,hf⟩:=fnd_zero h1 (by decide)
  rw [hno,← hg] at h2 ⊢
  exact ⟨open_rx (rx_more h hd) hx hk h2,.inl rfl,fun hq=>absurd he hq⟩
 ·rw [if_neg he]
  refine out_still h hd fun _=>?_
  unfold openP bad opN
  rw [if_neg he]
theorem out_close {cl:Int} (h:RX L O dn (fun _=>False)) (hd:dn + 1<=1099511627776):Out L O (dn + 1) c (clT L O cl c.n) (if Os.Op.closeErr O cl c.n = 0 then Os.Op.closed O cl c.n else O) (bad (clE L O cl c.n)):=by
 unfold clT clE
 by_cases he:Os.Op.closeErr O cl c.n = 0
 ·rw [if_pos he,if_pos he,if_pos he]
  obtain ⟨k,x,hH,hx,hk,hX⟩:=close_rx h he
  rw [hH]
  obtain ⟨r1,r2,r3⟩:=rel_rx (rx_more hX hd) hx hk
  refine ⟨r2,?_,fun hq=>absurd r1 hq⟩
  rcases r3 with r3 | ⟨r3,r4⟩
  ·exact .inl r3
  ·exact .inr (.inr (.inr ⟨k,L,x,h.sp,.inl rfl,hx,hk,r3,r4⟩))
 ·rw [if_neg he,if_neg he,if_neg he]
  exact out_still h hd fun _=>rfl
theorem out_read (h:RX L O dn (fun _=>False)) (hd:dn + 1<=1099511627776):Out L O (dn + 1) c L O (readP L c):=out_still h hd fun he=>by
 unfold readP bad at *
 have he':rdE L c≠0:=he
 have:rdD L c = ⟨#[]⟩:=by
  unfold rdE at he'
  unfold rdD
  split
  ·rename_i h1
   rw [if_pos h1] at he'
   unfold Bs.Bl.rOut
   rw [if_neg he']
   rfl
  ·rfl
 rw [this]
theorem out_list (h:RX L O dn (fun _=>False)) (hd:dn + 1<=1099511627776):Out L O (dn + 1) c L O (listP L c):=out_still h hd fun he=>by
 unfold listP bad at *
 have he':lsE L c≠0:=he
 have:lsP L c = []:=by
  unfold lsE at he'
  unfold lsP
  split
  ·rename_i h1
   rw [if_pos h1] at he'
   exact Fo.page_no rfl he'
  ·rfl
 rw [this]
theorem call_out {cl:Int} (h:RX L O dn (fun _=>False)) (hd:dn + 1<=1099511627776) (hc:Ks.Ak.right c = true):Out L O (dn + 1) c (tab L O (dn + 1) cl c) (ops L O cl c) (rep L O (dn + 1) cl c):=by
 have hk:=(Ks.Ak.right_iff.1 hc).1
 unfold tab ops rep
 by_cases h1:c.k = 1
 ·simp only [h1,if_true]
  exact out_still h hd told_bad
 by_cases h2:c.k = 2
 ·simp only [h2,if_true]
  exact out_still h hd told_bad
 by_cases h3:c.k = 3
 ·simp only [h3,if_true]
  exact out_make h hd
 by_cases h4:c.k = 4
 ·simp only [h4,if_true]
  exact out_make h hd
 by_cases h5:c.k = 5
 ·simp only [h5,if_true]
  exact out_read h hd
 by_cases h6:c.k = 6
 ·simp only [h6,if_true]
  exact out_write h hd
 by_cases h7:c.k = 7
 ·simp only [h7,if_true]
  exact out_cut h hd
 by_cases h8:c.k = 8
 ·simp only [h8,if_true]
  exact out_link h hd
 by_cases h9:c.k = 9
 ·simp only [h9,if_true]
  exact out_unlink h9 h hd
 by_cases h10:c.k = 10
 ·simp only [h10,if_true]
  exact out_rmdir h hd
 by_cases h11:c.k = 11
 ·simp only [h11,if_true]
  exact out_rename h11 h hd
 by_cases h12:c.k = 12
 ·simp only [h12,if_true]
  exact out_list h hd
 by_cases h13:c.k = 13
 ·simp only [h13,if_true]
  exact out_open h hd
 ·have h14:c.k = 14:=by omega
  simp only [h14,if_true]
  exact out_close h hd
theorem do_all {cl:Int} (h:RX L O dn (fun _=>False)):RX (doT L O dn cl c) (doO L O dn cl c) (doD L O dn cl) (fun _=>False)/\Did L (doD L O dn cl) c (doT L O dn cl c)/\((doR L O dn cl c).e≠0->doT L O dn cl c = L/\doO L O dn cl c = O/\doR L O dn cl c = bad (doR L O dn cl c).e):=by
 unfold doT doO doD doR
 by_cases he:refE L O dn cl = 0
 ·obtain ⟨_,h1,_⟩:=ref_zero he
  have h2:=h.dn.1
  rw [if_pos he,if_pos he,if_pos he,if_pos he]
  by_cases hc:Ks.Ak.right c = true
  ·rw [if_pos hc,if_pos hc,if_pos hc]
   have g:=call_out (cl:=cl) h (by omega) hc
   exact ⟨g.rx,g.did,g.err⟩
  ·rw [if_neg hc,if_neg hc,if_neg hc]
   exact ⟨rx_more h (by omega),.inl rfl,fun _=>⟨rfl,rfl,rfl⟩⟩
 ·rw [if_neg he,if_neg he,if_neg he,if_neg he]
  exact ⟨h,.inl rfl,fun _=>⟨rfl,rfl,rfl⟩⟩
end
end Nf
end Go.Proofs.YtneojimodomohaaGreat
namespace Go.Proofs.YtneojimodomohaaGreat
open Go.ChangeShapes Go.WideShapes Go.ChangeAt Go.RowKit Go.Deep It
set_option maxRecDepth 100000
theorem At.off_st2 {α:Type} {E:Enc α} {S:Nat->Prop} {w:World} {v:Value} {l:List α} {z:Nat} {a d g:Option Addr} {b c e f i j:Nat} {dn:Int} (h:At E S w v l) (hz:w.heap[z]? = some (BSt (.slice a b c) (.slice d e f) (.slice g i j) dn)) (hk:∀ x,(∃ (k:Nat) (s:ByteArray),(E.cells x)[k]? = some (Value.string s))∨∃ (p q:Int),(E.cells x)[0]? = some (Value.int .i64 p)/\(E.cells x)[1]? = some (Value.int .i64 q)):At E (fun b=>S b/\b≠z) w v l:=by
 rcases h with h | ⟨b,off,cap,rfl,hS,hb,hp,hc,hm,hx⟩
 ·exact .inl h
 ·refine .inr ⟨b,off,cap,rfl,⟨hS,?_⟩,hb,hp,hc,hm,hx⟩
  rintro rfl
  rcases hk l[0] with ⟨k,s,hs⟩ | ⟨p,q,h0,h1⟩
  ·have h1:=hx _ _ (E.flat_at l 0 l[0] (List.getElem?_eq_getElem hp) k _ hs)
   generalize off + (0 * E.sz + k) = i at h1
   simp only [World.cell?,hz] at h1
   rcases i with _ | _ | _ | _ | i <;> simp at h1
  ·have k0:=hx _ _ (E.flat_at l 0 l[0] (List.getElem?_eq_getElem hp) 0 _ h0)
   have k1:=hx _ _ (E.flat_at l 0 l[0] (List.getElem?_eq_getElem hp) 1 _ h1)
   simp only [Nat.zero_mul,Nat.zero_add,Nat.add_zero] at k0 k1
   simp only [World.cell?,hz] at k0 k1
   rcases off with _ | _ | _ | _ | off <;> simp at k0 k1
theorem At.off_st {α:Type} {E:Enc α} {S:Nat->Prop} {w:World} {v:Value} {l:List α} {z:Nat} {a d g:Option Addr} {b c e f i j:Nat} {dn:Int} (h:At E S w v l) (hz:w.heap[z]? = some (BSt (.slice a b c) (.slice d e f) (.slice g i j) dn)) (hk:∀ x,(∃ (k:Nat) (s:ByteArray),(E.cells x)[k]? = some (Value.string s))∨∃ (p q:Int),(E.cells x)[0]? = some (Value.int .i64 p)/\(E.cells x)[1]? = some (Value.int .i64 q)):At E (fun b=>b≠z) w v l:=(At.off_st2 h hz hk).imp fun _ h _=>h.2
def Sv (w:World) (u uo:Value) (T:List Ino) (O:List Os.Opn):Prop:=∃ L,TabW w u L/\pl L = T/\AtW Os.EO w uo O
theorem Sv.up {w w':World} {u uo:Value} {T:List Ino} {O:List Os.Opn} (h:Sv w u uo T O) (hb:Below w.heap.size w w'):Sv w' u uo T O:=by
 obtain ⟨L,h1,h2,h3⟩:=h
 exact ⟨L,h1.up hb,h2,h3.up hb⟩
theorem Sv.set {w:World} {u uo:Value} {T:List Ino} {O:List Os.Opn} {z:Nat} {a d g:Option Addr} {b c e f i j:Nat} {dn:Int} (h:Sv w u uo T O) (hz:w.heap[z]? = some (BSt (.slice a b c) (.slice d e f) (.slice g i j) dn)) (xs:List Value):Sv (w.setCells z 0 xs) u uo T O:=by
 obtain ⟨L,⟨h1,h4⟩,h2,h3⟩:=h
 have t1:TabAt (fun b=>b≠z) w u L:=⟨At.off_st h1 hz fun x=>.inr ⟨x.i.gen,x.i.kind,rfl,rfl⟩,fun x hx=>⟨At.off_st (h4 x hx).1 hz fun y=>.inl ⟨1,y.2,rfl⟩,At.off_st (h4 x hx).2.1 hz fun y=>.inl ⟨0,y.1,rfl⟩,(h4 x hx).2.2⟩⟩
 have t2:At Os.EO (fun b=>b≠z) w uo O:=At.off_st h3 hz fun x=>.inr ⟨x.1,x.2.1,rfl,rfl⟩
 exact ⟨L,(setCells_tab (S:=fun b=>b≠z) (fun h=>h rfl) xs 0 w t1).wide,h2,(setCells_ats (S:=fun b=>b≠z) (fun h=>h rfl) xs 0 w t2).wide⟩
theorem sv_do {u uo:Value} {sp:Option Addr} {sn sc:Nat} {dn cl:Int} {c:Cal} {T:List Ino} {O:List Os.Opn} {w:World} (h:Sv w u uo T O) (hx:Nf.RX T O dn (fun _=>False)) (hc:fits c) {R:Nf.Rpl} {T':List Ino} {Q:List Os.Opn} {D:Int} (hR:Nf.doR T O dn cl c = R) (hT:Nf.doT T O dn cl c = T') (hQ:Nf.doO T O dn cl c = Q) (hD:Nf.doD T O dn cl = D) :
  Calls Tryz.prog 11 #[VSt u uo (.slice sp sn sc) dn,.int .i64 cl,Ks.VC c] w fun e w'=>∃ ep en ec up un uc op on oc,e = .returned (.tuple #[VSt (.slice up un uc) (.slice op on oc) (.slice sp sn sc) D,VR R (.slice ep en ec)])/\Sv w' (.slice up un uc) (.slice op on oc) T' Q/\AtW EE w' (.slice ep en ec) R.ents/\Below w.heap.size w w':=by
 obtain ⟨L,h1,h2,h3⟩:=h
 subst h2
 refine (do_step h1 h3 (Sp.okN_sp hx.sp) hc hR hT hQ hD).mono ?_
 rintro e w' ⟨ep,en,ec,up,un,uc,op,on,oc,L1,rfl,ht,hp,hq,he,hb⟩
 exact ⟨ep,en,ec,up,un,uc,op,on,oc,rfl,⟨L1,ht.wide,hp,hq.wide⟩,he.wide,hb⟩
theorem sv_new (w:World):Calls Tryz.prog 17 #[] w fun e w'=>∃ ap n cp,e = .returned (VSt (.slice ap n cp) (.slice none 0 0) (.slice none 0 0) 0)/\Sv w' (.slice ap n cp) (.slice none 0 0) It.new []/\Below w.heap.size w w':=by
 refine (nnew_any w).mono ?_
 rintro e w' ⟨ap,n,cp,L,rfl,ht,hp,hb⟩
 exact ⟨ap,n,cp,rfl,⟨L,ht.wide,hp,At.nil⟩,hb⟩
theorem box_next {w:World} {A:Nat} {a d g a' d':Option Addr} {b c e f i j b' c' e' f':Nat} {dn D:Int} {T:List Ino} {O:List Os.Opn} {o:Obj} {W:World} (hA:w.heap[A]? = some (BSt (.slice a b c) (.slice d e f) (.slice g i j) dn)) (hs:Sv w (.slice a' b' c') (.slice d' e' f') T O) (hW:W = (w.setCells A 0 (cS (.slice a' b' c') (.slice d' e' f') (.slice g i j) D)).alloc o) :
  W.heap[A]? = some (BSt (.slice a' b' c') (.slice d' e' f') (.slice g i j) D)/\W.heap[w.heap.size]? = some o/\Sv W (.slice a' b' c') (.slice d' e' f') T O/\(∀ k,k < w.heap.size->k≠A->W.heap[k]? = w.heap[k]?)/\w.heap.size<=W.heap.size/\∀ {n:Nat} {w0:World},n<=A->n<=w.heap.size->Below n w0 w->Below n w0 W:=by
 have hs0:(w.setCells A 0 (cS (.slice a' b' c') (.slice d' e' f') (.slice g i j) D)).heap.size = w.heap.size:=by simp [World.setCells,World.setCell]
 have hl:=(qL hA)
 have hbn:Below w.heap.size (w.setCells A 0 (cS (.slice a' b' c') (.slice d' e' f') (.slice g i j) D)) W:=by rw [hW,← hs0];exact (Below.refl _ _).alloc (Nat.le_refl _) _
 refine ⟨(hbn.block _ hl).trans (setCells_at (cS (.slice a' b' c') (.slice d' e' f') (.slice g i j) D) hA rfl),?_,(hs.set hA _).up (by rw [hs0];exact hbn),fun k hk hne=>(hbn.block _ hk).trans (setCells_off _ _ _ hne),by have h:=hbn.size;rw [hs0] at h;exact h,fun hn h1 hb=>?_⟩
 ·rw [hW,← hs0]
  exact heap_alloc_new _ _
 ·exact (setCells_below hn _ 0 _ hb).trans (hbn.mono h1)
theorem box_two {w:World} {A:Nat} {a d g a' d':Option Addr} {b c e f i j b' c' e' f':Nat} {dn D:Int} {T:List Ino} {O:List Os.Opn} {o o2:Obj} {W:World} (hA:w.heap[A]? = some (BSt (.slice a b c) (.slice d e f) (.slice g i j) dn)) (hs:Sv w (.slice a' b' c') (.slice d' e' f') T O) (hW:W = ((w.setCells A 0 (cS (.slice a' b' c') (.slice d' e' f') (.slice g i j) D)).alloc o).alloc o2) :
  W.heap[A]? = some (BSt (.slice a' b' c') (.slice d' e' f') (.slice g i j) D)/\Sv W (.slice a' b' c') (.slice d' e' f') T O/\(∀ k,k < w.heap.size->k≠A->W.heap[k]? = w.heap[k]?)/\∀ {n:Nat} {w0:World},n<=A->n<=w.heap.size->Below n w0 w->Below n w0 W:=by
 obtain ⟨W1,hW1⟩:∃ W1,W1 = (w.setCells A 0 (cS (.slice a' b' c') (.slice d' e' f') (.slice g i j) D)).alloc o:=⟨_,rfl⟩
 obtain ⟨n1,-,n3,n4,n5,n6⟩:=box_next (D:=D) hA hs hW1
 rw [← hW1] at hW
 have hl:=(qL hA)
 have hb:Below W1.heap.size W1 W:=by rw [hW];exact (Below.refl _ _).alloc (Nat.le_refl _) _
 exact ⟨(hb.block _ (by omega)).trans n1,n3.up hb,fun k hk hne=>(hb.block _ (by omega)).trans (n4 k hk hne),fun h1 h2 h3=>(n6 h1 h2 h3).trans (hb.mono (by omega))⟩
theorem e0_le:Nf.e0.size<=maxLen:=by decide
end Go.Proofs.YtneojimodomohaaGreat
namespace Go.Proofs.YtneojimodomohaaGreat
open It Go.RowKit
set_option maxRecDepth 100000
set_option maxRecDepth 100000
namespace Nf
theorem apart_one {es:List Ent} (h:Fo.apart es) {i j:Nat} {x y:Ent} (hx:es[i]? = some x) (hy:es[j]? = some y) (he:x.1 = y.1):x = y:=by
 have h1:=List.pairwise_iff_getElem.1 h
 obtain ⟨hi,hxi⟩:=List.getElem?_eq_some_iff.1 hx
 obtain ⟨hj,hyj⟩:=List.getElem?_eq_some_iff.1 hy
 rcases Nat.lt_trichotomy i j with h2 | h2 | h2
 ·refine absurd ?_ (h1 i j (by simpa using hi) (by simpa using hj) h2)
  simp [hxi,hyj,he]
 ·subst h2
  rw [hx] at hy
  exact Option.some.inj hy
 ·refine absurd ?_ (h1 j i (by simpa using hj) (by simpa using hi) h2)
  simp [hxi,hyj,he]
theorem find_in {es:List Ent} {nx:Int} {e:Ent} (hr:Fo.Right es nx) (hs:Nm.ok e.1) (he:e∈es):Fo.findErr es nx e.1 = 0/\(Fo.found es nx e.1).2.2 = e.2.2:=by
 have hk:Fo.ask es nx e.1 = 0:=by rw [Fo.ask_right (Fo.err_ok hr),Nm.err_ok hs]
 obtain ⟨j,hj⟩:=List.mem_iff_getElem?.1 he
 rcases Fo.at_or (Fo.called e.1) es with ⟨_,h2⟩ | ⟨k,x,h1,h2,h3,h4⟩
 ·have:=h2 e he
  rw [Fo.called_iff.2 rfl] at this
  cases this
 ·have hf:=Fo.findErr_hit hk h1
  refine ⟨hf.1,?_⟩
  rw [Fo.found_hit hf.1 hf.2 h2,apart_one hr.2.2 h2 hj (Fo.called_iff.1 h3)]
abbrev xM:ByteArray:=⟨#[109,105,110,101]⟩
theorem okM:Nm.ok xM:=by
 refine ⟨by decide,by decide,fun e=>absurd (congrArg ByteArray.size e) (by decide),fun e=>absurd (congrArg ByteArray.size e) (by decide),?_⟩
 intro i hi _
 have h0:i < 4:=hi
 have:i = 0∨i = 1∨i = 2∨i = 3:=by omega
 rcases this with rfl | rfl | rfl | rfl
 ·exact (show (109:UInt8).toNat≠47/\(109:UInt8).toNat≠0 from by decide)
 ·exact (show (105:UInt8).toNat≠47/\(105:UInt8).toNat≠0 from by decide)
 ·exact (show (110:UInt8).toNat≠47/\(110:UInt8).toNat≠0 from by decide)
 ·exact (show (101:UInt8).toNat≠47/\(101:UInt8).toNat≠0 from by decide)
theorem right_c {k no gen no2 gen2 pl n:Int} {nm nm2 data:ByteArray} (h1:1<=k/\k<=14) (h2:Ks.Ak.hokP no gen) (h3:Ks.Ak.hokP no2 gen2) (h4:nm.size<=255) (h5:nm2.size<=255) (h6:0<=pl/\pl<=4294967295) (h7:0<=n/\n<=65535) (h8:data.size<=1024):Ks.Ak.right ⟨k,no,gen,no2,gen2,nm,nm2,pl,n,data⟩ = true:=Ks.Ak.right_iff.2 ⟨h1,h2,h3,h4,h5,h6,h7,h8⟩
def F1s (s:ByteArray):List Ino:=[⟨1,2,1,1,1,[],[(s,1,1,1)],1⟩,⟨1,1,1,0,1,[],[],0⟩]
theorem mk_s {s:ByteArray} (hs:Nm.ok s):Sp.mkE (Sp.chk Sp.isSp) new 0 1 s 1 1 = 0/\Sp.mkT (Sp.chk Sp.isSp) new 0 1 s 1 1 = F1s s/\Sp.mkH (Sp.chk Sp.isSp) new 0 1 s 1 1 = (1,1):=by
 obtain ⟨h1,h2⟩:=free_name (L:=new) (a:=0) (b:=1) (s:=s) (es:=[]) (nx:=0) (by decide) (by decide) (by decide) (dir_none (by decide)) hs (by rfl)
 have h3:Sp.makeErr (Sp.chk Sp.isSp) new 0 1 s 1 1 = 0:=by unfold Sp.makeErr;rw [if_pos (st_fine isSp_new (by decide)),if_pos (by decide),h1]
 have h4:It.makeErr new 1 1 = 0:=by decide
 have h5:makeH new 1 1 = (1,1):=by decide
 have hE:Sp.mkE (Sp.chk Sp.isSp) new 0 1 s 1 1 = 0:=by
  unfold Sp.mkE
  rw [if_pos h3,if_pos h4,h5,show Sp.dirEnts new 0 1 = [] from by decide,show Sp.dirNext new 0 1 = 0 from by decide]
  exact h2 1 1 (by decide) (by decide)
 refine ⟨hE,?_,by unfold Sp.mkH;rw [if_pos hE,h5]⟩
 unfold Sp.mkT
 rw [if_pos hE,h5]
 rfl
theorem rx_new:RX new [] 0 (fun _=>False):=right_rx.1 right_new
section
variable {L:List Ino} {O:List Os.Opn} {dn cl:Int} {c:Cal}
theorem rx_do (h:RX L O dn (fun _=>False)) (hd:dn≠1099511627776) (hcl:0<=cl/\cl<=1099511627776) (hc:Ks.Ak.right c = true):doR L O dn cl c = rep L O (dn + 1) cl c/\doT L O dn cl c = tab L O (dn + 1) cl c/\doO L O dn cl c = ops L O cl c/\doD L O dn cl = dn + 1:=do_fine (ref_fine (right_rx.2 h) hd hcl) hc
theorem doD_or:doD L O dn cl = dn∨doD L O dn cl = dn + 1:=by
 unfold doD
 split
 ·exact .inr rfl
 ·exact .inl rfl
end
theorem first_s {s:ByteArray} (hs:Nm.ok s) (hz:s.size<=255) {cl:Int} (hcl:0<=cl/\cl<=1099511627776):doR new [] 0 cl ⟨3,0,1,0,0,s,e0,0,0,e0⟩ = ⟨0,1,1,1,1,0,1,e0,[],0⟩/\doT new [] 0 cl ⟨3,0,1,0,0,s,e0,0,0,e0⟩ = F1s s/\doO new [] 0 cl ⟨3,0,1,0,0,s,e0,0,0,e0⟩ = []/\doD new [] 0 cl = 1/\RX (F1s s) [] 1 (fun _=>False):=by
 obtain ⟨c,hc⟩:∃ c:Cal,c = ⟨3,0,1,0,0,s,e0,0,0,e0⟩:=⟨_,rfl⟩
 rw [← hc]
 have hk:c.k = 3:=by rw [hc]
 have hr:Ks.Ak.right c = true:=by
  rw [hc]
  exact right_c (by decide) (by decide) (by decide) hz (by decide) (by decide) (by decide) (by decide)
 obtain ⟨h1,h2,h3,h4⟩:=rx_do (c:=c) (cl:=cl) rx_new (by decide) hcl hr
 obtain ⟨m1,m2,m3⟩:=mk_s hs
 have hT:doT new [] 0 cl c = F1s s:=by
  rw [h2,show tab new [] (0 + 1) cl c = makeT new c 1 1 from by simp [tab,hk]]
  unfold makeT
  rw [hc,m1,m2,if_pos rfl]
 have hO:doO new [] 0 cl c = []:=by
  rw [h3]
  simp [ops,hk]
 refine ⟨?_,hT,hO,h4,?_⟩
 ·rw [h1,show rep new [] (0 + 1) cl c = makeP new c 1 1 from by simp [rep,hk]]
  unfold makeP told
  rw [hc,m1,m2,m3,if_pos rfl]
  rfl
 ·have:=(do_all (cl:=cl) (c:=c) rx_new).1
  rw [hT,hO,h4] at this
  exact this
structure Mine (L:List Ino) (R:List (Int × ByteArray)) (S:Int):Prop where
 file:∃ x,L[1]? = some x/\x.gen = 1/\x.kind = 1/\x.runs = R/\x.size = S
 root:∃ x ck,L[0]? = some x/\x.gen = 1/\(xM,ck,(1:Int),(1:Int))∈x.ents
theorem mine_chg {L T:List Ino} {dn:Int} {kt:Nat} {c:Cal} {R:List (Int × ByteArray)} {S:Int} (hs:Sp.isSp L = true) (h:Mine L R S) (g:Chg L T dn kt (PP L c)) (hn:¬ (c.nm = xM/\(c.k = 9∨c.k = 11))):Mine T R S:=by
 obtain ⟨⟨x,hx,h1,h2,h3,h4⟩,⟨x0,ck,hx0,h5,h6⟩⟩:=h
 have hk0:=Sp.root_kind (Sp.isSp_iff.1 hs).1 hx0
 constructor
 ·obtain ⟨x',hx',h⟩:=g.old 1 x hx
  rcases h with ⟨a1,a2,a3,a4,_⟩ | ⟨a1,_⟩ | ⟨a1,_⟩
  ·exact ⟨x',hx',by omega,by omega,a3.trans h3,(a4 h2).trans h4⟩
  ·omega
  ·omega
 ·obtain ⟨x',hx',h⟩:=g.old 0 x0 hx0
  rcases h with ⟨a1,_,_,_,_,_,a7⟩ | ⟨_,a2,_⟩ | ⟨a1,_⟩
  ·refine ⟨x',ck,hx',by omega,?_⟩
   rcases a7 _ h6 with h | ⟨b1,b2⟩
   ·exact h
   ·exfalso
    have b3:xM = c.nm:=b1
    rcases b2 with b2 | b2 | ⟨y,hy,hk⟩
    ·exact hn ⟨b3.symm,.inl b2⟩
    ·exact hn ⟨b3.symm,.inr b2⟩
    ·rw [show ((xM,ck,(1:Int),(1:Int)):Ent).2.2.1.toNat = 1 from rfl,hx] at hy
     cases hy
     omega
  ·rw [a2] at h6
   cases h6
  ·omega
theorem mine_did {L T:List Ino} {dn:Int} {c:Cal} {R:List (Int × ByteArray)} {S:Int} (hs:Sp.isSp L = true) (h:Mine L R S) (g:Did L dn c T) (hH:¬ (c.no = 1/\c.gen = 1)) (hn:¬ (c.nm = xM/\(c.k = 9∨c.k = 11))):Mine T R S:=by
 rcases g with rfl | ⟨kt,g⟩ | ⟨k,x,y,hx,hk,h1,h2,rfl⟩ | ⟨kt,T1,y,hs1,g,hy,hk,hl,rfl⟩
 ·exact h
 ·exact mine_chg hs h g hn
 ·obtain ⟨⟨z,hz,a1,a2,a3,a4⟩,⟨x0,ck,hx0,a5,a6⟩⟩:=h
  have hk0:=Sp.root_kind (Sp.isSp_iff.1 hs).1 hx0
  have hg:=get_one (y:=y) hx
  refine ⟨⟨z,?_,a1,a2,a3,a4⟩,⟨x0,ck,?_,a5,a6⟩⟩
  ·rw [hg,if_neg]
   ·exact hz
   ·rintro rfl
    rw [hz] at hx
    cases hx
    exact hH ⟨h1,by omega⟩
  ·rw [hg,if_neg]
   ·exact hx0
   ·rintro rfl
    rw [hx0] at hx
    cases hx
    omega
 ·have h1:Mine T1 R S:=by
   rcases g with rfl | g
   ·exact h
   ·exact mine_chg hs h g hn
  obtain ⟨⟨z,hz,a1,a2,a3,a4⟩,⟨x0,ck,hx0,a5,a6⟩⟩:=h1
  have hk0:=Sp.root_kind (Sp.isSp_iff.1 hs1).1 hx0
  have hg:=get_one (y:=gone y.gen) hy
  refine ⟨⟨z,?_,a1,a2,a3,a4⟩,⟨x0,ck,?_,a5,a6⟩⟩
  ·rw [hg,if_neg]
   ·exact hz
   ·rintro rfl
    have hc:=((Sp.isSp_ok hs1) 1 y hy).2.2.1 hk
    rw [hl] at hc
    have h3:Sp.nmv T1 ((1:Nat):Int) = 0:=by omega
    exact List.countP_eq_zero.1 h3 _ (Sp.all_of hx0 a6) (by simp [Sp.toI])
  ·rw [hg,if_neg]
   ·exact hx0
   ·rintro rfl
    rw [hx0] at hy
    cases hy
    omega
def Rd (R:List (Int × ByteArray)) (S at_:Int) (d:ByteArray):Prop:=Bs.Bl.rErr R S at_ 512 = 0/\Bs.Bl.rOut R S at_ 512 = d
theorem write_nil {a:Int} {d:ByteArray} (h:d.size≠0):Bs.Bl.write [] a d = [(a,d)]:=by
 unfold Bs.Bl.write Bs.Bl.parts Bs.Bl.within Bs.Bl.joins
 rw [if_neg h]
 rfl
theorem end_one {a:Int} {d:ByteArray} (h:Bl.right (-1) [(a,d)]):Bl.endOf [(a,d)] = a + d.size:=by
 unfold Bl.endOf
 rw [if_pos h]
 rfl
abbrev cW (a:Int) (d:ByteArray):Cal:=⟨6,1,1,0,0,e0,e0,a,0,d⟩
theorem right_w {a:Int} {d:ByteArray} (ha:0<=a/\a<=1048064) (hd:d.size<=512):Ks.Ak.right (cW a d) = true:=right_c (by decide) (by decide) (by decide) (by decide) (by decide) (by omega) (by decide) (by omega)
theorem wrote {a:Int} {d:ByteArray} (ha:0<=a/\a<=1048064) (hd:d.size<=512):∃ (W:Rpl) (T:List Ino) (R:List (Int × ByteArray)) (S:Int),doR (F1s xM) [] 1 0 (cW a d) = W/\doT (F1s xM) [] 1 0 (cW a d) = T/\doO (F1s xM) [] 1 0 (cW a d) = []/\doD (F1s xM) [] 1 0 = 2/\W.e = 0/\(d.size≠0->W.size = a + d.size)/\RX T [] 2 (fun _=>False)/\Mine T R S/\Rd R S a d:=by
 have hX:RX (F1s xM) [] 1 (fun _=>False):=(first_s okM (by decide) (cl:=0) (by decide)).2.2.2.2
 obtain ⟨h1,h2,h3,h4⟩:=rx_do (c:=cW a d) (cl:=0) hX (by decide) (by decide) (right_w ha hd)
 rw [show rep (F1s xM) [] (1 + 1) 0 (cW a d) = wrP (F1s xM) (cW a d) (1 + 1) from by simp [rep]] at h1
 rw [show tab (F1s xM) [] (1 + 1) 0 (cW a d) = wrT (F1s xM) (cW a d) (1 + 1) from by simp [tab]] at h2
 rw [show ops (F1s xM) [] 0 (cW a d) = [] from by simp [ops]] at h3
 have hRX:=(do_all (cl:=0) (c:=cW a d) hX).1
 rw [h3,h4] at hRX
 obtain ⟨x,hx⟩:∃ x:Ino,x = ⟨1,1,1,0,1,[],[],0⟩:=⟨_,rfl⟩
 have hx1:(F1s xM)[1]? = some x:=by rw [hx];rfl
 have hr:=(Sp.isSp_iff.1 hX.sp).1
 have hB:By (F1s xM) = 0:=by decide
 by_cases h0:d.size = 0
 ·obtain ⟨f1,f2,f3⟩:=fnd_ok (e:=405) hr hx1 (by rw [hx];decide)
  rw [hx] at f1 f3
  have hw:Bs.Bl.wErr [] a d = 0:=by
   unfold Bs.Bl.wErr
   rw [if_pos (show Bs.Bl.right (-1) [] from trivial),if_neg (by omega),if_neg (by omega)]
  have e1:wrT (F1s xM) (cW a d) (1 + 1) = F1s xM/\(wrP (F1s xM) (cW a d) (1 + 1)).e = 0:=by
   unfold wrT wrP
   have f1':fndE (F1s xM) (cW a d).no (cW a d).gen 1 405 = 0:=f1
   have f3':findI (F1s xM) (cW a d).no (cW a d).gen = ⟨1,1,1,0,1,[],[],0⟩:=f3
   have hw':Bs.Bl.wErr [] (cW a d).pl (cW a d).data = 0:=hw
   rw [f1',f3',if_neg (by decide),if_neg (show ¬ 512 < d.size by omega),hw',if_neg (by decide),if_pos h0,if_neg (by decide),if_neg (show ¬ 512 < d.size by omega),if_neg (by decide),if_pos h0]
   exact ⟨rfl,rfl⟩
  refine ⟨_,_,[],0,rfl,h2,h3,h4,by rw [h1];exact e1.2,fun h=>absurd h0 h,by rw [h2] at hRX;exact hRX,?_,?_,?_⟩
  ·rw [e1.1]
   exact ⟨⟨x,hx1,by rw [hx],by rw [hx],by rw [hx],by rw [hx]⟩,⟨_,1,rfl,rfl,by simp⟩⟩
  ·exact Bs.Bl.rErr_ok (show Bs.Bl.right (-1) [] from trivial) (by omega)
  ·rw [Bs.Bl.rOut_ok (show Bs.Bl.right (-1) [] from trivial) (by omega),show (min 512 (0 - a)).toNat = 0 by omega]
   refine ByteArray.ext ?_
   rw [← Array.toList_inj]
   have:d.data.toList.length = 0:=h0
   rw [List.length_eq_zero_iff.1 this]
   rfl
 ·have hxr:x.runs = []:=by rw [hx]
  have g:WrOk (F1s xM) (cW a d) 1 x:=by
   refine ⟨rfl,hx1,by rw [hx],by rw [hx],h0,hd,ha.1,by show a + (d.size:Int)<=1048576;omega,?_⟩
   rw [hxr,hB,write_nil h0]
   have e:tot [(a,d)] = d.size:=by simp [Bs.Bl.total]
   rw [e]
   omega
  obtain ⟨w1,w2,w3,w4⟩:=wr_y hX (by decide) g
  obtain ⟨e1,e2⟩:=wr_ok hX (by decide) g
  have hro:Bl.right (-1) [(a,d)]:=⟨⟨h0,by show -1 < a;omega,by show a + (d.size:Int)<=1048576;omega⟩,trivial⟩
  have hO:wrO x (cW a d) = [(a,d)]:=by
   unfold wrO Bs.Bl.wOut
   rw [hxr] at w1 ⊢
   have w1':Bs.Bl.wErr [] (cW a d).pl (cW a d).data = 0:=w1
   rw [if_pos w1']
   exact write_nil h0
  have hN:wrN x (cW a d) = a + d.size:=by
   unfold wrN
   rw [hO,bend,end_one hro,hx]
   show max (0:Int) (a + d.size) = _
   omega
  refine ⟨_,_,[(a,d)],a + d.size,rfl,h2,h3,h4,by rw [h1];exact e2,fun _=>?_,by rw [h2] at hRX;exact hRX,?_,?_,?_⟩
  ·rw [h1]
   obtain ⟨f1,f2,f3⟩:=fnd_ok (e:=405) hr hx1 (by rw [hx];decide)
   have fe:fndE (F1s xM) (cW a d).no (cW a d).gen 1 405 = 0:=by
    rw [hx] at f1
    exact f1
   have fi:findI (F1s xM) (cW a d).no (cW a d).gen = x:=by
    rw [hx] at f3 ⊢
    exact f3
   obtain ⟨r1,r2,r3⟩:=wr_room hr hX.by8 hx1 w1
   have hroom:=g.room
   unfold wrP
   rw [fe,fi,w1,w3,if_neg (by decide),if_neg (show ¬ 512 < d.size by omega),if_neg (by decide),if_neg h0,if_neg (by omega)]
   exact hN
  ·rw [e1]
   refine ⟨⟨wrY x (cW a d) (1 + 1),?_,by rw [hx],by rw [hx],?_,hN⟩,⟨⟨1,2,1,1,1,[],[(xM,1,1,1)],1⟩,1,?_,rfl,by simp⟩⟩
   ·rw [get_one hx1,if_pos rfl]
   ·show Bs.Bl.write x.runs a d = _
    rw [hxr,write_nil h0]
   ·rw [get_one hx1,if_neg (by decide)]
    rfl
  ·exact Bs.Bl.rErr_ok ((br _ _).2 hro) (by omega)
  ·rw [Bs.Bl.rOut_ok ((br _ _).2 hro) (by omega),show (min 512 (a + (d.size:Int) - a)).toNat = d.size by omega]
   have e:=Bs.Bl.over_same (l:=[]) (at_:=a) (d:=d) trivial
   rw [write_nil h0] at e
   rw [e]
   exact Bs.Bl.txt_bs d
abbrev cL:Cal:=⟨1,0,1,0,0,xM,e0,0,0,e0⟩
abbrev cR' (a:Int):Cal:=⟨5,1,1,0,0,e0,e0,a,512,e0⟩
theorem looked {L:List Ino} {O:List Os.Opn} {dn:Int} {R:List (Int × ByteArray)} {S:Int} (h:RX L O dn (fun _=>False)) (hd:dn≠1099511627776) (hm:Mine L R S):(doR L O dn 1 cL).e = 0/\(doR L O dn 1 cL).no = 1/\(doR L O dn 1 cL).gen = 1/\doT L O dn 1 cL = L/\doO L O dn 1 cL = O/\doD L O dn 1 = dn + 1:=by
 obtain ⟨h1,h2,h3,h4⟩:=rx_do (c:=cL) (cl:=1) h hd (by decide) (by decide)
 rw [show rep L O (dn + 1) 1 cL = lookP L cL from by simp [rep]] at h1
 rw [show tab L O (dn + 1) 1 cL = L from by simp [tab]] at h2
 rw [show ops L O 1 cL = O from by simp [ops]] at h3
 obtain ⟨⟨x,hx,a1,a2,a3,a4⟩,⟨x0,ck,hx0,a5,a6⟩⟩:=hm
 have hr:=(Sp.isSp_iff.1 h.sp).1
 have hk0:=Sp.root_kind hr hx0
 obtain ⟨f1,f2,f3⟩:=fnd_ok (e:=405) hr hx0 (by omega)
 rw [a5] at f2 f3
 have hde:Sp.dirErr L 0 1 = 0:=by
  unfold Sp.dirErr
  have f2':findErr L 0 1 = 0:=f2
  have f3':findI L 0 1 = x0:=f3
  rw [if_pos f2',f3',if_pos hk0]
 have hR:=((Sp.isSp_ok h.sp 0 x0 hx0).1 hk0).1
 have f3':findI L 0 1 = x0:=f3
 obtain ⟨g1,g2⟩:=find_in (e:=(xM,ck,1,1)) hR okM a6
 have hc:Sp.chk Sp.isSp L = 0:=by unfold Sp.chk;rw [if_pos h.sp]
 have hE:Sp.atErr (Sp.chk Sp.isSp) L 0 1 xM = 0:=by
  unfold Sp.atErr Sp.lookErr Sp.dirEnts Sp.dirNext
  rw [if_pos hc,if_pos hde,if_pos hde,if_pos hde,f3']
  exact g1
 have hH:Sp.atH (Sp.chk Sp.isSp) L 0 1 xM = (1,1):=by
  unfold Sp.atH Sp.lookH Sp.dirEnts Sp.dirNext
  rw [if_pos hc,if_pos hde,if_pos hde,if_pos hde,f3']
  exact g2
 have hP:lookP L cL = told 0 1 1 (atR L 1):=by
  unfold lookP
  have hE':Sp.atErr (Sp.chk Sp.isSp) L cL.no cL.gen cL.nm = 0:=hE
  have hH':Sp.atH (Sp.chk Sp.isSp) L cL.no cL.gen cL.nm = (1,1):=hH
  rw [hE',hH']
 rw [h1,hP]
 exact ⟨rfl,rfl,rfl,h2,h3,h4⟩
theorem readd {L:List Ino} {O:List Os.Opn} {dn a:Int} {d:ByteArray} {R:List (Int × ByteArray)} {S:Int} (ha:0<=a/\a<=1048064) (h:RX L O dn (fun _=>False)) (hd:dn≠1099511627776) (hm:Mine L R S) (hR:Rd R S a d):(doR L O dn 2 (cR' a)).e = 0/\(doR L O dn 2 (cR' a)).data = d/\doD L O dn 2 = dn + 1:=by
 have hc:Ks.Ak.right (cR' a) = true:=right_c (by decide) (by decide) (by decide) (by decide) (by decide) (by omega) (by decide) (by decide)
 obtain ⟨h1,h2,h3,h4⟩:=rx_do (c:=cR' a) (cl:=2) h hd (by decide) hc
 rw [show rep L O (dn + 1) 2 (cR' a) = readP L (cR' a) from by simp [rep]] at h1
 obtain ⟨⟨x,hx,a1,a2,a3,a4⟩,_⟩:=hm
 have hr:=(Sp.isSp_iff.1 h.sp).1
 obtain ⟨f1,f2,f3⟩:=fnd_ok (e:=405) hr hx (by omega)
 rw [a1,a2] at f1
 rw [a1] at f3
 have f1':fndE L (cR' a).no (cR' a).gen 1 405 = 0:=f1
 have f3':findI L (cR' a).no (cR' a).gen = x:=f3
 have hE:rdE L (cR' a) = 0:=by
  unfold rdE
  rw [if_pos f1',f3',a3,a4]
  exact hR.1
 have hD:rdD L (cR' a) = d:=by
  unfold rdD
  rw [if_pos f1',f3',a3,a4]
  exact hR.2
 rw [h1]
 exact ⟨hE,hD,h4⟩
end Nf
end Go.Proofs.YtneojimodomohaaGreat
