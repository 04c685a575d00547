/- RClos, as one. -/
import Derived.Test.YtggoccfddnpelaaGreatR20
namespace Go.Proofs.YtggoccfddnpelaaGreat.Ks.Rs
open Go.ChangeShapes Go.WideShapes Go.ChangeAt Go.RowKit Go.Deep
set_option maxRecDepth 100000
open Go.Proofs.YtggoccfddnpelaaGreat.Ks.Ak
theorem infoE:(Tryz.prog.info? 91).map (fun i=>(i.zero,i.size,i.bytes)) = some (some (.agg #[.string ⟨#[]⟩,.int .i64 0,.int .i64 0,.int .i64 0]),4,40):=by kernel_rfl
/-- A reply in its box B, whose entries lie in a row of the call's own; the blocks of w0 below n0 are as they were. -/
structure Rs (n0 B:Nat) (w0:World) (r:Rep) (v:Value) (w:World):Prop where
  box:w.heap[B]? = some (BR r v)
  row:w.ownsRow n0 91 4 v r.ents.length (EE.flat r.ents)
  below:Below n0 w0 w
  base:n0<=B
  start:n0<=w0.heap.size
theorem Rs.step {n0 B:Nat} {w0 w w':World} {r:Rep} {v:Value} (h:Rs n0 B w0 r v w) (hb:Below w.heap.size w w'):Rs n0 B w0 r v w' :=
  ⟨block_step h.box hb,h.row.kept (grown_of_below hb none) (Classical.em _),h.below.trans (hb.mono (Nat.le_trans h.start h.below.size)),h.base,h.start⟩
theorem Rs.drew {n0 B:Nat} {w0 w:World} {r:Rep} {v:Value} (h:Rs n0 B w0 r v w):Rs n0 B w0 r v w.drew:=⟨h.box,h.row,h.below.drew,h.base,h.start⟩
def OthR (B:Nat) (w w':World):Prop:=w.heap.size<=w'.heap.size/\∀ k o t,t≠91->k≠B->w.heap[k]? = some (.cells o t (0,0))->w'.heap[k]? = some (.cells o t (0,0))
theorem OthR.refl (B:Nat) (w:World):OthR B w w:=⟨Nat.le_refl _,fun _ _ _ _ _ h=>h⟩
theorem OthR.trans {B:Nat} {a b c:World} (h:OthR B a b) (k:OthR B b c):OthR B a c:=⟨Nat.le_trans h.1 k.1,fun i o t ht hi hh=>k.2 i o t ht hi (h.2 i o t ht hi hh)⟩
theorem OthR.of_below {B:Nat} {w w':World} (hb:Below w.heap.size w w'):OthR B w w':=⟨hb.size,fun _ _ _ _ _ h=>block_step h hb⟩
theorem not_row {W:World} {B:Nat} {o:Array Value} {t e:TypeId} {fr:Nat × Nat} (h:W.heap[B]? = some (.cells o t fr)) (hte:t≠e) {base size k:Nat} {v:Value} {xs:List Value} (hr:W.ownsRow base e size v k xs):some B≠v.ownBlock:=by
  rcases hr.2 with ⟨rfl,_⟩ | ⟨g,cap,cur,rfl,_,hgb,_⟩
  · simp [Value.ownBlock]
  · intro e'
    obtain rfl:B = g:=by simpa [Value.ownBlock] using e'
    have:=h.symm.trans hgb
    simp at this
    exact hte this.2.1
theorem grown_set (w:World) (A j:Nat) (v:Value):w.grownBy (w.setCell ⟨A,j,none⟩ v) (some A):=⟨rfl,rfl,rfl,by simp [World.setCell],fun k _ hk=>Below.heap_setCell _ _ _ _ (fun e=>hk (by rw [e]))⟩
/-- The box written anew, the entries as they were. -/
theorem Rs.put {n0 B:Nat} {w0 w w':World} {r r':Rep} {v:Value} (h:Rs n0 B w0 r v w) (hg:w.grownBy w' (some B)) (hb:w'.heap[B]? = some (BR r' v)) (he:r'.ents = r.ents):Rs n0 B w0 r' v w'/\OthR B w w':=by
  refine ⟨⟨hb,?_,?_,h.base,h.start⟩,hg.size,fun k o t _ hk hh=>(hg.block k (block_lt hh) (by simpa using hk)).trans hh⟩
  · rw [he];exact h.row.kept hg (.inr (not_row h.box (by decide) h.row).symm)
  · exact h.below.grown hg (Nat.le_trans h.start h.below.size) (fun k hk=>by cases hk;exact h.base)
theorem Rs.frozen {n0 B:Nat} {w0 w:World} {r:Rep} {v:Value} (h:Rs n0 B w0 r v w) (j:Nat):w.frozen? ⟨B,j,none⟩ = false:=by simp [World.frozen?,h.box]
set_option maxHeartbeats 1000000 in
theorem clos1_any (n0 B:Nat) (w0:World) (r:Rep) (v:Value) (s:ByteArray) (w:World) (h:Rs n0 B w0 r v w) (hs:s.size<=65535):Calls Tryz.prog 130 #[.string s,.pointer (some ⟨B,0,none⟩)] w fun e w'=>e = .returned (.tuple #[])/\∃ v',Rs n0 B w0 { r with e:=Pl.numVal s } v' w'/\OthR B w w':=by
  obtain ⟨re,rno,rgen,rk,rl,rs,rt,rdata,rents,rn⟩:=r
  have HH:Hid (Rs n0 B w0 ⟨re,rno,rgen,rk,rl,rs,rt,rdata,rents,rn⟩ v w):=h
  clear h
  have HS:Hid (s.size<=maxLen):=by show s.size<=maxLen;unfold maxLen;omega
  obtain ⟨c0,c1,c2,c3,c4,c5,c6,c7,c8,c9⟩:=ten_of HH.out.box
  have hlt:=block_lt HH.out.box
  have hfz:=fun j=>HH.out.frozen j
  go_enter Tryz.func130,Tryz.ntmps130
  go_wp2_with fail
  refine (number_s s _ HS.out).mono ?_
  rintro e w1 ⟨rfl,rfl⟩
  go_wp2
  go_end0
  have hp:=HH.out.put (r':={ (⟨re,rno,rgen,rk,rl,rs,rt,rdata,rents,rn⟩:Rep) with e:=Pl.numVal s }) (grown_set _ B 0 (.int .i64 (Pl.numVal s))) (by simp [World.setCell,Array.getElem?_modify,HH.out.box]) rfl
  first | exact ⟨rfl,v,hp.1,hp.2⟩ | exact ⟨rfl,⟨v,hp.1⟩,hp.2⟩ | exact ⟨⟨v,hp.1⟩,hp.2⟩
set_option maxHeartbeats 1000000 in
theorem clos6_any (n0 B:Nat) (w0:World) (r:Rep) (v:Value) (s:ByteArray) (w:World) (h:Rs n0 B w0 r v w) (hs:s.size<=65535):Calls Tryz.prog 139 #[.string s,.pointer (some ⟨B,0,none⟩)] w fun e w'=>e = .returned (.tuple #[])/\∃ v',Rs n0 B w0 { r with n:=Pl.numVal s } v' w'/\OthR B w w':=by
  obtain ⟨re,rno,rgen,rk,rl,rs,rt,rdata,rents,rn⟩:=r
  have HH:Hid (Rs n0 B w0 ⟨re,rno,rgen,rk,rl,rs,rt,rdata,rents,rn⟩ v w):=h
  clear h
  have HS:Hid (s.size<=maxLen):=by show s.size<=maxLen;unfold maxLen;omega
  obtain ⟨c0,c1,c2,c3,c4,c5,c6,c7,c8,c9⟩:=ten_of HH.out.box
  have hlt:=block_lt HH.out.box
  have hfz:=fun j=>HH.out.frozen j
  go_enter Tryz.func139,Tryz.ntmps139
  go_wp2_with fail
  refine (number_s s _ HS.out).mono ?_
  rintro e w1 ⟨rfl,rfl⟩
  go_wp2
  go_end0
  have hp:=HH.out.put (r':={ (⟨re,rno,rgen,rk,rl,rs,rt,rdata,rents,rn⟩:Rep) with n:=Pl.numVal s }) (grown_set _ B 9 (.int .i64 (Pl.numVal s))) (by simp [World.setCell,Array.getElem?_modify,HH.out.box]) rfl
  first | exact ⟨rfl,v,hp.1,hp.2⟩ | exact ⟨rfl,⟨v,hp.1⟩,hp.2⟩ | exact ⟨⟨v,hp.1⟩,hp.2⟩
set_option maxHeartbeats 1000000 in
theorem clos4_any (n0 B:Nat) (w0:World) (r:Rep) (v:Value) (s:ByteArray) (w:World) (h:Rs n0 B w0 r v w) (_hs:s.size<=65535):Calls Tryz.prog 136 #[.string s,.pointer (some ⟨B,0,none⟩)] w fun e w'=>e = .returned (.tuple #[])/\∃ v',Rs n0 B w0 { r with data:=s } v' w'/\OthR B w w':=by
  obtain ⟨re,rno,rgen,rk,rl,rs,rt,rdata,rents,rn⟩:=r
  have HH:Hid (Rs n0 B w0 ⟨re,rno,rgen,rk,rl,rs,rt,rdata,rents,rn⟩ v w):=h
  clear h
  obtain ⟨c0,c1,c2,c3,c4,c5,c6,c7,c8,c9⟩:=ten_of HH.out.box
  have hlt:=block_lt HH.out.box
  have hfz:=fun j=>HH.out.frozen j
  go_enter Tryz.func136,Tryz.ntmps136
  go_wp2
  go_end0
  have hp:=HH.out.put (r':={ (⟨re,rno,rgen,rk,rl,rs,rt,rdata,rents,rn⟩:Rep) with data:=s }) (grown_set _ B 7 (.string s)) (by simp [World.setCell,Array.getElem?_modify,HH.out.box]) rfl
  first | exact ⟨rfl,v,hp.1,hp.2⟩ | exact ⟨rfl,⟨v,hp.1⟩,hp.2⟩ | exact ⟨⟨v,hp.1⟩,hp.2⟩
set_option maxHeartbeats 1000000 in
theorem clos2_any (n0 B:Nat) (w0:World) (r:Rep) (v:Value) (s:ByteArray) (w:World) (h:Rs n0 B w0 r v w) (_hs:s.size<=65535):Calls Tryz.prog 132 #[.string s,.pointer (some ⟨B,0,none⟩)] w fun e w'=>e = .returned (.tuple #[])/\∃ v',Rs n0 B w0 { r with no:=hno s,gen:=hgen s } v' w'/\OthR B w w':=by
  obtain ⟨re,rno,rgen,rk,rl,rs,rt,rdata,rents,rn⟩:=r
  have HH:Hid (Rs n0 B w0 ⟨re,rno,rgen,rk,rl,rs,rt,rdata,rents,rn⟩ v w):=h
  clear h
  go_enter Tryz.func132,Tryz.ntmps132
  go_wp2_with fail
  refine (handle_any s _).mono ?_
  rintro e w1 ⟨rfl,hb1⟩
  have HH1:Hid (Rs n0 B w0 ⟨re,rno,rgen,rk,rl,rs,rt,rdata,rents,rn⟩ v w1/\OthR B w w1):=⟨HH.out.step hb1,OthR.of_below hb1⟩
  obtain ⟨c0,c1,c2,c3,c4,c5,c6,c7,c8,c9⟩:=ten_of HH1.out.1.box
  have hlt:=block_lt HH1.out.1.box
  have hfz:=fun j=>HH1.out.1.frozen j
  clear hb1
  go_wp2
  go_end0
  have hp:=HH1.out.1.put (r':={ (⟨re,rno,rgen,rk,rl,rs,rt,rdata,rents,rn⟩:Rep) with no:=hno s,gen:=hgen s }) (grown_trans (grown_set w1 B 1 (.int .i64 (hno s))) (grown_set _ B 2 (.int .i64 (hgen s)))) (by simp [World.setCell,Array.getElem?_modify,HH1.out.1.box]) rfl
  exact ⟨rfl,v,hp.1,HH1.out.2.trans hp.2⟩
set_option maxHeartbeats 1000000 in
theorem clos3_any (n0 B:Nat) (w0:World) (r:Rep) (v:Value) (s:ByteArray) (w:World) (h:Rs n0 B w0 r v w) (_hs:s.size<=65535):Calls Tryz.prog 134 #[.string s,.pointer (some ⟨B,0,none⟩)] w fun e w'=>e = .returned (.tuple #[])/\∃ v',Rs n0 B w0 { r with k:=(Re.ua s).1,l:=(Re.ua s).2.1,s:=(Re.ua s).2.2.1,t:=(Re.ua s).2.2.2 } v' w'/\OthR B w w':=by
  obtain ⟨re,rno,rgen,rk,rl,rs,rt,rdata,rents,rn⟩:=r
  have HH:Hid (Rs n0 B w0 ⟨re,rno,rgen,rk,rl,rs,rt,rdata,rents,rn⟩ v w):=h
  clear h
  go_enter Tryz.func134,Tryz.ntmps134
  go_wp2_with fail
  refine (attributes_any s _).mono ?_
  rintro e w1 ⟨rfl,hb1⟩
  have HH1:Hid (Rs n0 B w0 ⟨re,rno,rgen,rk,rl,rs,rt,rdata,rents,rn⟩ v w1/\OthR B w w1):=⟨HH.out.step hb1,OthR.of_below hb1⟩
  obtain ⟨c0,c1,c2,c3,c4,c5,c6,c7,c8,c9⟩:=ten_of HH1.out.1.box
  have hlt:=block_lt HH1.out.1.box
  have hfz:=fun j=>HH1.out.1.frozen j
  clear hb1
  go_wp2
  go_end0
  have hp:=HH1.out.1.put (r':={ (⟨re,rno,rgen,rk,rl,rs,rt,rdata,rents,rn⟩:Rep) with k:=(Re.ua s).1,l:=(Re.ua s).2.1,s:=(Re.ua s).2.2.1,t:=(Re.ua s).2.2.2 }) (grown_trans (grown_trans (grown_trans (grown_set w1 B 3 (.int .i64 (Re.ua s).1)) (grown_set _ B 4 (.int .i64 (Re.ua s).2.1))) (grown_set _ B 5 (.int .i64 (Re.ua s).2.2.1))) (grown_set _ B 6 (.int .i64 (Re.ua s).2.2.2))) (by simp [World.setCell,Array.getElem?_modify,HH1.out.1.box]) rfl
  exact ⟨rfl,v,hp.1,HH1.out.2.trans hp.2⟩
theorem four_new (W:World) (g:Nat) (hg:g = W.heap.size) (a b c d:Value) (T:TypeId):∀ j u,[a,b,c,d][j]? = some u->(W.alloc (.cells #[a,b,c,d] T)).cell? ((⟨g,0,none⟩:Addr).add j) = some u:=by
  subst hg
  intro j u hj
  rw [Go.WideShapes.add_plain]
  match j,hj with
  | 0,hj=>simp at hj;subst hj;simp
  | 1,hj=>simp at hj;subst hj;simp
  | 2,hj=>simp at hj;subst hj;simp
  | 3,hj=>simp at hj;subst hj;simp
theorem ent_added {n0 B:Nat} {w0 w w1:World} {r:Rep} {v:Value} {x:Ent} {o:Obj} {g cap:Nat} (h:Rs n0 B w0 r v w)
    (hown:w1.ownsRow n0 91 4 (.slice (some ⟨g,0,none⟩) (r.ents.length + 1) cap) (r.ents.length + 1) (EE.flat r.ents ++ [.string x.1,.int .i64 x.2.1,.int .i64 x.2.2.1,.int .i64 x.2.2.2])) (hgrow:(w.alloc o).grownBy w1 v.ownBlock) :
    w1.cell? ⟨B,8,none⟩ = some v/\w1.frozen? ⟨B,8,none⟩ = false/\B < w1.heap.size/\Hid (Rs n0 B w0 { r with ents:=r.ents ++ [x] } (.slice (some ⟨g,0,none⟩) (r.ents.length + 1) cap) (w1.setCell ⟨B,8,none⟩ (.slice (some ⟨g,0,none⟩) (r.ents.length + 1) cap))/\OthR B w (w1.setCell ⟨B,8,none⟩ (.slice (some ⟨g,0,none⟩) (r.ents.length + 1) cap))):=by
  have hbo:(w.alloc o).heap[B]? = some (BR r v):=(Below.heap_alloc w o B (block_lt h.box)).trans h.box
  have hb1:w1.heap[B]? = some (BR r v):=(hgrow.block B (block_lt hbo) (not_row hbo (by decide) (h.row.alloc o))).trans hbo
  refine ⟨(ten_of hb1).2.2.2.2.2.2.2.2.1,by simp [World.frozen?,hb1],block_lt hb1,⟨by simp [World.setCell,Array.getElem?_modify,hb1],?_,?_,h.base,h.start⟩,?_,?_⟩
  · have e : EE.flat (r.ents ++ [x]) = EE.flat r.ents ++ [.string x.1, .int .i64 x.2.1, .int .i64 x.2.2.1, .int .i64 x.2.2.2] := by rw [EE.flat_append]; rfl
    refine World.ownsRow.kept (w:=w1) ?_ (grown_set w1 B 8 _) (.inr (not_row hb1 (by decide) hown).symm)
    show w1.ownsRow n0 91 4 _ (r.ents ++ [x]).length (EE.flat (r.ents ++ [x]))
    rw [e,List.length_append]
    exact hown
  · have h1 := h.below.size
    have h2:=h.start
    exact ((h.below.alloc (Nat.le_trans h2 h1) _).grown hgrow (by simp;omega) (fun g hg=>(h.row.lt g hg).1)).setCell (p:=⟨B,8,none⟩) h.base _
  · have h1 := hgrow.size
    simp [World.setCell] at h1 ⊢
    omega
  · intro k o' t ht hk hh
    have h1:w1.heap[k]? = some (.cells o' t (0,0)):=App.keep (h.row.alloc o) hgrow ((Below.heap_alloc w o k (block_lt hh)).trans hh) ht
    exact (Below.heap_setCell _ _ _ k (fun e=>hk e)).trans h1
set_option maxHeartbeats 1000000 in
theorem clos5_any (n0 B:Nat) (w0:World) (r:Rep) (v:Value) (s:ByteArray) (w:World) (h:Rs n0 B w0 r v w) (hs:s.size<=65535) (hl:r.ents.length<=1000000):Calls Tryz.prog 137 #[.string s,.pointer (some ⟨B,0,none⟩)] w fun e w'=>e = .returned (.tuple #[])/\∃ v',Rs n0 B w0 { r with ents:=r.ents ++ [Re.entOf s] } v' w'/\OthR B w w':=by
  obtain ⟨re,rno,rgen,rk,rl,rs,rt,rdata,rents,rn⟩:=r
  have HH:Hid (Rs n0 B w0 ⟨re,rno,rgen,rk,rl,rs,rt,rdata,rents,rn⟩ v w):=h
  clear h
  have hl':rents.length<=1000000:=hl
  clear hl
  obtain ⟨i0,hi,hz0,hz1,hz2⟩:=info_parts infoE
  have c8:=(ten_of HH.out.box).2.2.2.2.2.2.2.2.1
  have hlt:=block_lt HH.out.box
  obtain ⟨x,hx⟩:∃ x,Re.entOf s = x:=⟨_,rfl⟩
  have HX:Hid (Re.entOf s = x):=hx
  rw [hx]
  clear hx
  go_enter Tryz.func137,Tryz.ntmps137
  go_wp2
  go_region_law (first
    | (go_simp;go_at_call 138;refine (entry_any s _ hs).mono ?_;rintro e w2 ⟨rfl,hb2⟩;rw [HX.out];have h1:=HH.out.drew.step hb2;have h2:OthR B w w2:=OthR.of_below (w:=w.drew) hb2;have HH2:Hid (Rs n0 B w0 ⟨re,rno,rgen,rk,rl,rs,rt,rdata,rents,rn⟩ v w2/\OthR B w w2):=⟨h1,h2⟩;have c8b:=(ten_of HH2.out.1.box).2.2.2.2.2.2.2.2.1;have hlt2:=block_lt HH2.out.1.box)
    | (have hh2:=HH2;refine step_append_lies _ rfl (.tmp 4) (.tmp 7) 50 rfl n0 91 i0 (.agg #[.string ⟨#[]⟩,.int .i64 0,.int .i64 0,.int .i64 0]) 4 40 Tryz.underlying50 hi hz0 hz1 hz2 rfl (by decide) _ rents.length _ (by simp [Act.eval]) (HH2.out.1.row.alloc _) ⟨w2.heap.size,0,none⟩ 1 1 [.string x.1,.int .i64 x.2.1,.int .i64 x.2.2.1,.int .i64 x.2.2.2] (by simp [Act.eval]) rfl (four_new _ _ rfl _ _ _ _ _) (EE.one x) (by decide) (by unfold maxLen;omega) (by omega) (by have:=HH2.out.1.below.size;have:=HH2.out.1.start;simp;omega) (w2.heap.size + 1) (by simp) ?_;intro gg cap w3 hown3 hgrow3 hat hlt3;obtain ⟨q0,q1,q2,HQ⟩:=ent_added (x:=x) HH2.out.1 hown3 hgrow3))
  all_goals
    go_wp2
    go_end0
    first | exact ⟨rfl,_,HQ.out.1,HH2.out.2.trans HQ.out.2⟩ | exact ⟨rfl,⟨_,HQ.out.1⟩,HH2.out.2.trans HQ.out.2⟩
/-- A row of strings, opened. -/
theorem strs_open {base:Nat} {w:World} {v:Value} {l:List ByteArray} (h:w.ownsRow base 9 1 v l.length (l.map Value.string)):∃ ao cap,v = .slice ao l.length cap/\l.length<=maxLen/\∀ (i:Nat) (s:ByteArray),l[i]? = some s->∃ (g:Nat) (o:Array Value),ao = some ⟨g,0,none⟩/\w.heap[g]? = some (.cells o 9 (0,0))/\o[i]? = some (Value.string s):=by
  rcases h.2 with ⟨rfl,hn⟩ | ⟨g,cap,cur,rfl,hbg,hg,hnc,hcm,hcs,htake⟩
  · obtain rfl := List.eq_nil_of_length_eq_zero hn
    exact ⟨none,0,rfl,Nat.zero_le _,fun i s hi=>by simp at hi⟩
  · refine ⟨_, cap, rfl, by omega, fun i s hi => ⟨g, cur, rfl, hg, ?_⟩⟩
    have h1:(l.map Value.string)[i]? = some (Value.string s):=by simp [hi]
    rw [← htake,List.getElem?_take] at h1
    split at h1
    · rw [← Array.getElem?_toList];exact h1
    · cases h1
theorem foldl_take {α:Type} (f:α->ByteArray->α) (a:α) (l:List ByteArray) (k:Nat) (s:ByteArray) (h:l[k]? = some s):(l.take (k + 1)).foldl f a = f ((l.take k).foldl f a) s:=by
  obtain ⟨hk,rfl⟩:=List.getElem?_eq_some_iff.1 h
  rw [List.take_succ_eq_append_getElem hk,List.foldl_append]
  rfl
def Re.st1 (r:Rep) (s:ByteArray):Rep:={ r with e:=Pl.numVal s }
theorem Re.st1_len (r:Rep) (s:ByteArray):(Re.st1 r s).ents.length<=r.ents.length + 1:=by simp [Re.st1]
set_option maxHeartbeats 4000000 in
theorem read1_any (n0 B:Nat) (w0:World) (N:Nat) (hN:N<=500000)
    (r:Rep) (v fv:Value) (l:List (Int × ByteArray)) (tag:Int) (w:World) (hr:Rs n0 B w0 r v w) (hl0:r.ents.length<=N) (hf:FieldsAt w.heap.size w fv l) (hlen:l.length<=N) (hsm:∀ x∈l,x.2.size<=65535) :
    Calls Tryz.prog 129 #[fv,.int .i64 tag,.func (Fn.func 130) #[] #[.pointer (some ⟨B,0,none⟩)]] w fun e w'=>e = .returned (.tuple #[])/\∃ v',Rs n0 B w0 ((Pl.allOf l tag).foldl Re.st1 r) v' w'/\OthR B w w':=by
  obtain ⟨A,hA⟩:∃ A,Pl.allOf l tag = A:=⟨_,rfl⟩
  have HA:Hid (Pl.allOf l tag = A):=hA
  have HAS:Hid (∀ s∈A,s.size<=65535):=by
    intro s hs
    rw [← hA] at hs
    unfold Pl.allOf at hs
    obtain ⟨x,hx,rfl⟩:=List.mem_map.1 hs
    exact hsm x (List.mem_filter.1 hx).1
  have hAl:A.length<=N:=by
    rw [← hA]
    unfold Pl.allOf
    rw [List.length_map]
    exact Nat.le_trans (List.length_filter_le _ _) hlen
  rw [hA]
  have HR:Hid (Rs n0 B w0 r v w):=hr
  have HFL:Hid (FieldsAt w.heap.size w fv l):=hf
  clear hA hr hf hsm
  go_enter Tryz.func129,Tryz.ntmps129
  go_wp2_with fail
  refine (all_any fv l tag _ HFL.out (by omega)).mono ?_
  rintro e w1 ⟨r1,rfl,hown,hb1⟩
  rw [HA.out] at hown
  obtain ⟨ao,cap,rfl,hm,hx⟩:=strs_open hown
  unfold maxLen at hm
  obtain ⟨z,hz⟩:∃ z,A.length = z:=⟨_,rfl⟩
  rw [hz] at hm hAl ⊢
  have HZ:Hid (A.length = z):=hz
  have HX:Hid (∀ (i:Nat) (s:ByteArray),A[i]? = some s->∃ (g:Nat) (o:Array Value),ao = some ⟨g,0,none⟩/\w1.heap[g]? = some (.cells o 9 (0,0))/\o[i]? = some (Value.string s)):=hx
  have HR1:Hid (Rs n0 B w0 r v w1/\OthR B w w1):=⟨HR.out.step hb1,OthR.of_below hb1⟩
  clear hown hb1 hx hz
  go_wp2_with fail
  go_loopw [12] (fun i wr=>∃ k:Nat,k<=z/\i = .int .i64 k/\Hid (∃ v',Rs n0 B w0 ((A.take k).foldl Re.st1 r) v' wr/\OthR B w1 wr)/\((A.take k).foldl Re.st1 r).ents.length<=N + k) (fun i _=>z - (intOf i).toNat)
  case atStart=>exact ⟨0,Nat.zero_le _,rfl,⟨v,HR1.out.1,OthR.refl _ _⟩,by simpa using hl0⟩
  case round =>
    obtain ⟨k,hk,rfl,HK,hle⟩:=hrel
    obtain ⟨v',hk1,hk2⟩:=HK.out
    have HK1:Hid (Rs n0 B w0 ((A.take k).foldl Re.st1 r) v' wr/\OthR B w1 wr):=⟨hk1,hk2⟩
    clear HK hk1 hk2
    by_cases hlt:k < z
    · obtain ⟨s, hs⟩ : ∃ s, A[k]? = some s := ⟨_, List.getElem?_eq_getElem (by rw [HZ.out]; exact hlt)⟩
      have HS:Hid (s.size<=65535):=HAS.out s (List.mem_of_getElem? hs)
      have HFT:Hid ((A.take (k + 1)).foldl Re.st1 r = Re.st1 ((A.take k).foldl Re.st1 r) s):=foldl_take Re.st1 r A k s hs
      have HLN:Hid ((Re.st1 ((A.take k).foldl Re.st1 r) s).ents.length<=N + (k + 1)):=by have:=Re.st1_len ((A.take k).foldl Re.st1 r) s;show (Re.st1 ((A.take k).foldl Re.st1 r) s).ents.length<=_;omega
      have HL6:Hid (((A.take k).foldl Re.st1 r).ents.length<=1000000):=by show ((A.take k).foldl Re.st1 r).ents.length<=_;omega
      obtain ⟨g,o,rfl,hg,ho⟩:=HX.out k s hs
      have hgr:wr.heap[g]? = some (.cells o 9 (0,0)):=HK1.out.2.2 g o 9 (by decide) (by intro e;subst e;have h1:=HR1.out.1.box.symm.trans hg;simp at h1) hg
      have c0:wr.cell? ⟨g,k,none⟩ = some (.string s):=by simp only [World.cell?,hgr];exact ho
      have hlt':(k:Int) < (z:Int):=by omega
      clear hs hg ho hgr hle
      go_wp2_with fail
      refine (clos1_any n0 B w0 _ v' s _ HK1.out.1 HS.out).mono ?_
      rintro e w2 ⟨rfl,v2,hr2,ho2⟩
      have HK2:Hid (Rs n0 B w0 ((A.take (k + 1)).foldl Re.st1 r) v2 w2/\OthR B w1 w2):=⟨by rw [HFT.out];exact hr2,HK1.out.2.trans ho2⟩
      clear hr2 ho2 c0
      go_wp2
      go_roundw
      case rel=>exact ⟨k + 1,by omega,by go_num,⟨v2,HK2.out.1,HK2.out.2⟩,by rw [HFT.out];exact HLN.out⟩
      case measure=>simp [intOf];omega
    · obtain rfl : k = z := by omega
      have hlt':¬ (k:Int) < (k:Int):=by omega
      have HT:Hid (A.take k = A):=List.take_of_length_le (by rw [HZ.out];exact Nat.le_refl _)
      rw [HT.out] at HK1
      clear hle
      go_wp2
      go_end0
      first | exact ⟨rfl,v',HK1.out.1,HR1.out.2.trans HK1.out.2⟩ | exact ⟨rfl,⟨v',HK1.out.1⟩,HR1.out.2.trans HK1.out.2⟩
def Re.st2 (r:Rep) (s:ByteArray):Rep:={ r with no:=hno s,gen:=hgen s }
theorem Re.st2_len (r:Rep) (s:ByteArray):(Re.st2 r s).ents.length<=r.ents.length + 1:=by simp [Re.st2]
set_option maxHeartbeats 4000000 in
theorem read2_any (n0 B:Nat) (w0:World) (N:Nat) (hN:N<=500000)
    (r:Rep) (v fv:Value) (l:List (Int × ByteArray)) (tag:Int) (w:World) (hr:Rs n0 B w0 r v w) (hl0:r.ents.length<=N) (hf:FieldsAt w.heap.size w fv l) (hlen:l.length<=N) (hsm:∀ x∈l,x.2.size<=65535) :
    Calls Tryz.prog 129 #[fv,.int .i64 tag,.func (Fn.func 132) #[] #[.pointer (some ⟨B,0,none⟩)]] w fun e w'=>e = .returned (.tuple #[])/\∃ v',Rs n0 B w0 ((Pl.allOf l tag).foldl Re.st2 r) v' w'/\OthR B w w':=by
  obtain ⟨A,hA⟩:∃ A,Pl.allOf l tag = A:=⟨_,rfl⟩
  have HA:Hid (Pl.allOf l tag = A):=hA
  have HAS:Hid (∀ s∈A,s.size<=65535):=by
    intro s hs
    rw [← hA] at hs
    unfold Pl.allOf at hs
    obtain ⟨x,hx,rfl⟩:=List.mem_map.1 hs
    exact hsm x (List.mem_filter.1 hx).1
  have hAl:A.length<=N:=by
    rw [← hA]
    unfold Pl.allOf
    rw [List.length_map]
    exact Nat.le_trans (List.length_filter_le _ _) hlen
  rw [hA]
  have HR:Hid (Rs n0 B w0 r v w):=hr
  have HFL:Hid (FieldsAt w.heap.size w fv l):=hf
  clear hA hr hf hsm
  go_enter Tryz.func129,Tryz.ntmps129
  go_wp2_with fail
  refine (all_any fv l tag _ HFL.out (by omega)).mono ?_
  rintro e w1 ⟨r1,rfl,hown,hb1⟩
  rw [HA.out] at hown
  obtain ⟨ao,cap,rfl,hm,hx⟩:=strs_open hown
  unfold maxLen at hm
  obtain ⟨z,hz⟩:∃ z,A.length = z:=⟨_,rfl⟩
  rw [hz] at hm hAl ⊢
  have HZ:Hid (A.length = z):=hz
  have HX:Hid (∀ (i:Nat) (s:ByteArray),A[i]? = some s->∃ (g:Nat) (o:Array Value),ao = some ⟨g,0,none⟩/\w1.heap[g]? = some (.cells o 9 (0,0))/\o[i]? = some (Value.string s)):=hx
  have HR1:Hid (Rs n0 B w0 r v w1/\OthR B w w1):=⟨HR.out.step hb1,OthR.of_below hb1⟩
  clear hown hb1 hx hz
  go_wp2_with fail
  go_loopw [12] (fun i wr=>∃ k:Nat,k<=z/\i = .int .i64 k/\Hid (∃ v',Rs n0 B w0 ((A.take k).foldl Re.st2 r) v' wr/\OthR B w1 wr)/\((A.take k).foldl Re.st2 r).ents.length<=N + k) (fun i _=>z - (intOf i).toNat)
  case atStart=>exact ⟨0,Nat.zero_le _,rfl,⟨v,HR1.out.1,OthR.refl _ _⟩,by simpa using hl0⟩
  case round =>
    obtain ⟨k,hk,rfl,HK,hle⟩:=hrel
    obtain ⟨v',hk1,hk2⟩:=HK.out
    have HK1:Hid (Rs n0 B w0 ((A.take k).foldl Re.st2 r) v' wr/\OthR B w1 wr):=⟨hk1,hk2⟩
    clear HK hk1 hk2
    by_cases hlt:k < z
    · obtain ⟨s, hs⟩ : ∃ s, A[k]? = some s := ⟨_, List.getElem?_eq_getElem (by rw [HZ.out]; exact hlt)⟩
      have HS:Hid (s.size<=65535):=HAS.out s (List.mem_of_getElem? hs)
      have HFT:Hid ((A.take (k + 1)).foldl Re.st2 r = Re.st2 ((A.take k).foldl Re.st2 r) s):=foldl_take Re.st2 r A k s hs
      have HLN:Hid ((Re.st2 ((A.take k).foldl Re.st2 r) s).ents.length<=N + (k + 1)):=by have:=Re.st2_len ((A.take k).foldl Re.st2 r) s;show (Re.st2 ((A.take k).foldl Re.st2 r) s).ents.length<=_;omega
      have HL6:Hid (((A.take k).foldl Re.st2 r).ents.length<=1000000):=by show ((A.take k).foldl Re.st2 r).ents.length<=_;omega
      obtain ⟨g,o,rfl,hg,ho⟩:=HX.out k s hs
      have hgr:wr.heap[g]? = some (.cells o 9 (0,0)):=HK1.out.2.2 g o 9 (by decide) (by intro e;subst e;have h1:=HR1.out.1.box.symm.trans hg;simp at h1) hg
      have c0:wr.cell? ⟨g,k,none⟩ = some (.string s):=by simp only [World.cell?,hgr];exact ho
      have hlt':(k:Int) < (z:Int):=by omega
      clear hs hg ho hgr hle
      go_wp2_with fail
      refine (clos2_any n0 B w0 _ v' s _ HK1.out.1 HS.out).mono ?_
      rintro e w2 ⟨rfl,v2,hr2,ho2⟩
      have HK2:Hid (Rs n0 B w0 ((A.take (k + 1)).foldl Re.st2 r) v2 w2/\OthR B w1 w2):=⟨by rw [HFT.out];exact hr2,HK1.out.2.trans ho2⟩
      clear hr2 ho2 c0
      go_wp2
      go_roundw
      case rel=>exact ⟨k + 1,by omega,by go_num,⟨v2,HK2.out.1,HK2.out.2⟩,by rw [HFT.out];exact HLN.out⟩
      case measure=>simp [intOf];omega
    · obtain rfl : k = z := by omega
      have hlt':¬ (k:Int) < (k:Int):=by omega
      have HT:Hid (A.take k = A):=List.take_of_length_le (by rw [HZ.out];exact Nat.le_refl _)
      rw [HT.out] at HK1
      clear hle
      go_wp2
      go_end0
      first | exact ⟨rfl,v',HK1.out.1,HR1.out.2.trans HK1.out.2⟩ | exact ⟨rfl,⟨v',HK1.out.1⟩,HR1.out.2.trans HK1.out.2⟩
def Re.st3 (r:Rep) (s:ByteArray):Rep:={ r with k:=(Re.ua s).1,l:=(Re.ua s).2.1,s:=(Re.ua s).2.2.1,t:=(Re.ua s).2.2.2 }
theorem Re.st3_len (r:Rep) (s:ByteArray):(Re.st3 r s).ents.length<=r.ents.length + 1:=by simp [Re.st3]
set_option maxHeartbeats 4000000 in
theorem read3_any (n0 B:Nat) (w0:World) (N:Nat) (hN:N<=500000)
    (r:Rep) (v fv:Value) (l:List (Int × ByteArray)) (tag:Int) (w:World) (hr:Rs n0 B w0 r v w) (hl0:r.ents.length<=N) (hf:FieldsAt w.heap.size w fv l) (hlen:l.length<=N) (hsm:∀ x∈l,x.2.size<=65535) :
    Calls Tryz.prog 129 #[fv,.int .i64 tag,.func (Fn.func 134) #[] #[.pointer (some ⟨B,0,none⟩)]] w fun e w'=>e = .returned (.tuple #[])/\∃ v',Rs n0 B w0 ((Pl.allOf l tag).foldl Re.st3 r) v' w'/\OthR B w w':=by
  obtain ⟨A,hA⟩:∃ A,Pl.allOf l tag = A:=⟨_,rfl⟩
  have HA:Hid (Pl.allOf l tag = A):=hA
  have HAS:Hid (∀ s∈A,s.size<=65535):=by
    intro s hs
    rw [← hA] at hs
    unfold Pl.allOf at hs
    obtain ⟨x,hx,rfl⟩:=List.mem_map.1 hs
    exact hsm x (List.mem_filter.1 hx).1
  have hAl:A.length<=N:=by
    rw [← hA]
    unfold Pl.allOf
    rw [List.length_map]
    exact Nat.le_trans (List.length_filter_le _ _) hlen
  rw [hA]
  have HR:Hid (Rs n0 B w0 r v w):=hr
  have HFL:Hid (FieldsAt w.heap.size w fv l):=hf
  clear hA hr hf hsm
  go_enter Tryz.func129,Tryz.ntmps129
  go_wp2_with fail
  refine (all_any fv l tag _ HFL.out (by omega)).mono ?_
  rintro e w1 ⟨r1,rfl,hown,hb1⟩
  rw [HA.out] at hown
  obtain ⟨ao,cap,rfl,hm,hx⟩:=strs_open hown
  unfold maxLen at hm
  obtain ⟨z,hz⟩:∃ z,A.length = z:=⟨_,rfl⟩
  rw [hz] at hm hAl ⊢
  have HZ:Hid (A.length = z):=hz
  have HX:Hid (∀ (i:Nat) (s:ByteArray),A[i]? = some s->∃ (g:Nat) (o:Array Value),ao = some ⟨g,0,none⟩/\w1.heap[g]? = some (.cells o 9 (0,0))/\o[i]? = some (Value.string s)):=hx
  have HR1:Hid (Rs n0 B w0 r v w1/\OthR B w w1):=⟨HR.out.step hb1,OthR.of_below hb1⟩
  clear hown hb1 hx hz
  go_wp2_with fail
  go_loopw [12] (fun i wr=>∃ k:Nat,k<=z/\i = .int .i64 k/\Hid (∃ v',Rs n0 B w0 ((A.take k).foldl Re.st3 r) v' wr/\OthR B w1 wr)/\((A.take k).foldl Re.st3 r).ents.length<=N + k) (fun i _=>z - (intOf i).toNat)
  case atStart=>exact ⟨0,Nat.zero_le _,rfl,⟨v,HR1.out.1,OthR.refl _ _⟩,by simpa using hl0⟩
  case round =>
    obtain ⟨k,hk,rfl,HK,hle⟩:=hrel
    obtain ⟨v',hk1,hk2⟩:=HK.out
    have HK1:Hid (Rs n0 B w0 ((A.take k).foldl Re.st3 r) v' wr/\OthR B w1 wr):=⟨hk1,hk2⟩
    clear HK hk1 hk2
    by_cases hlt:k < z
    · obtain ⟨s, hs⟩ : ∃ s, A[k]? = some s := ⟨_, List.getElem?_eq_getElem (by rw [HZ.out]; exact hlt)⟩
      have HS:Hid (s.size<=65535):=HAS.out s (List.mem_of_getElem? hs)
      have HFT:Hid ((A.take (k + 1)).foldl Re.st3 r = Re.st3 ((A.take k).foldl Re.st3 r) s):=foldl_take Re.st3 r A k s hs
      have HLN:Hid ((Re.st3 ((A.take k).foldl Re.st3 r) s).ents.length<=N + (k + 1)):=by have:=Re.st3_len ((A.take k).foldl Re.st3 r) s;show (Re.st3 ((A.take k).foldl Re.st3 r) s).ents.length<=_;omega
      have HL6:Hid (((A.take k).foldl Re.st3 r).ents.length<=1000000):=by show ((A.take k).foldl Re.st3 r).ents.length<=_;omega
      obtain ⟨g,o,rfl,hg,ho⟩:=HX.out k s hs
      have hgr:wr.heap[g]? = some (.cells o 9 (0,0)):=HK1.out.2.2 g o 9 (by decide) (by intro e;subst e;have h1:=HR1.out.1.box.symm.trans hg;simp at h1) hg
      have c0:wr.cell? ⟨g,k,none⟩ = some (.string s):=by simp only [World.cell?,hgr];exact ho
      have hlt':(k:Int) < (z:Int):=by omega
      clear hs hg ho hgr hle
      go_wp2_with fail
      refine (clos3_any n0 B w0 _ v' s _ HK1.out.1 HS.out).mono ?_
      rintro e w2 ⟨rfl,v2,hr2,ho2⟩
      have HK2:Hid (Rs n0 B w0 ((A.take (k + 1)).foldl Re.st3 r) v2 w2/\OthR B w1 w2):=⟨by rw [HFT.out];exact hr2,HK1.out.2.trans ho2⟩
      clear hr2 ho2 c0
      go_wp2
      go_roundw
      case rel=>exact ⟨k + 1,by omega,by go_num,⟨v2,HK2.out.1,HK2.out.2⟩,by rw [HFT.out];exact HLN.out⟩
      case measure=>simp [intOf];omega
    · obtain rfl : k = z := by omega
      have hlt':¬ (k:Int) < (k:Int):=by omega
      have HT:Hid (A.take k = A):=List.take_of_length_le (by rw [HZ.out];exact Nat.le_refl _)
      rw [HT.out] at HK1
      clear hle
      go_wp2
      go_end0
      first | exact ⟨rfl,v',HK1.out.1,HR1.out.2.trans HK1.out.2⟩ | exact ⟨rfl,⟨v',HK1.out.1⟩,HR1.out.2.trans HK1.out.2⟩
def Re.st4 (r:Rep) (s:ByteArray):Rep:={ r with data:=s }
theorem Re.st4_len (r:Rep) (s:ByteArray):(Re.st4 r s).ents.length<=r.ents.length + 1:=by simp [Re.st4]
set_option maxHeartbeats 4000000 in
theorem read4_any (n0 B:Nat) (w0:World) (N:Nat) (hN:N<=500000)
    (r:Rep) (v fv:Value) (l:List (Int × ByteArray)) (tag:Int) (w:World) (hr:Rs n0 B w0 r v w) (hl0:r.ents.length<=N) (hf:FieldsAt w.heap.size w fv l) (hlen:l.length<=N) (hsm:∀ x∈l,x.2.size<=65535) :
    Calls Tryz.prog 129 #[fv,.int .i64 tag,.func (Fn.func 136) #[] #[.pointer (some ⟨B,0,none⟩)]] w fun e w'=>e = .returned (.tuple #[])/\∃ v',Rs n0 B w0 ((Pl.allOf l tag).foldl Re.st4 r) v' w'/\OthR B w w':=by
  obtain ⟨A,hA⟩:∃ A,Pl.allOf l tag = A:=⟨_,rfl⟩
  have HA:Hid (Pl.allOf l tag = A):=hA
  have HAS:Hid (∀ s∈A,s.size<=65535):=by
    intro s hs
    rw [← hA] at hs
    unfold Pl.allOf at hs
    obtain ⟨x,hx,rfl⟩:=List.mem_map.1 hs
    exact hsm x (List.mem_filter.1 hx).1
  have hAl:A.length<=N:=by
    rw [← hA]
    unfold Pl.allOf
    rw [List.length_map]
    exact Nat.le_trans (List.length_filter_le _ _) hlen
  rw [hA]
  have HR:Hid (Rs n0 B w0 r v w):=hr
  have HFL:Hid (FieldsAt w.heap.size w fv l):=hf
  clear hA hr hf hsm
  go_enter Tryz.func129,Tryz.ntmps129
  go_wp2_with fail
  refine (all_any fv l tag _ HFL.out (by omega)).mono ?_
  rintro e w1 ⟨r1,rfl,hown,hb1⟩
  rw [HA.out] at hown
  obtain ⟨ao,cap,rfl,hm,hx⟩:=strs_open hown
  unfold maxLen at hm
  obtain ⟨z,hz⟩:∃ z,A.length = z:=⟨_,rfl⟩
  rw [hz] at hm hAl ⊢
  have HZ:Hid (A.length = z):=hz
  have HX:Hid (∀ (i:Nat) (s:ByteArray),A[i]? = some s->∃ (g:Nat) (o:Array Value),ao = some ⟨g,0,none⟩/\w1.heap[g]? = some (.cells o 9 (0,0))/\o[i]? = some (Value.string s)):=hx
  have HR1:Hid (Rs n0 B w0 r v w1/\OthR B w w1):=⟨HR.out.step hb1,OthR.of_below hb1⟩
  clear hown hb1 hx hz
  go_wp2_with fail
  go_loopw [12] (fun i wr=>∃ k:Nat,k<=z/\i = .int .i64 k/\Hid (∃ v',Rs n0 B w0 ((A.take k).foldl Re.st4 r) v' wr/\OthR B w1 wr)/\((A.take k).foldl Re.st4 r).ents.length<=N + k) (fun i _=>z - (intOf i).toNat)
  case atStart=>exact ⟨0,Nat.zero_le _,rfl,⟨v,HR1.out.1,OthR.refl _ _⟩,by simpa using hl0⟩
  case round =>
    obtain ⟨k,hk,rfl,HK,hle⟩:=hrel
    obtain ⟨v',hk1,hk2⟩:=HK.out
    have HK1:Hid (Rs n0 B w0 ((A.take k).foldl Re.st4 r) v' wr/\OthR B w1 wr):=⟨hk1,hk2⟩
    clear HK hk1 hk2
    by_cases hlt:k < z
    · obtain ⟨s, hs⟩ : ∃ s, A[k]? = some s := ⟨_, List.getElem?_eq_getElem (by rw [HZ.out]; exact hlt)⟩
      have HS:Hid (s.size<=65535):=HAS.out s (List.mem_of_getElem? hs)
      have HFT:Hid ((A.take (k + 1)).foldl Re.st4 r = Re.st4 ((A.take k).foldl Re.st4 r) s):=foldl_take Re.st4 r A k s hs
      have HLN:Hid ((Re.st4 ((A.take k).foldl Re.st4 r) s).ents.length<=N + (k + 1)):=by have:=Re.st4_len ((A.take k).foldl Re.st4 r) s;show (Re.st4 ((A.take k).foldl Re.st4 r) s).ents.length<=_;omega
      have HL6:Hid (((A.take k).foldl Re.st4 r).ents.length<=1000000):=by show ((A.take k).foldl Re.st4 r).ents.length<=_;omega
      obtain ⟨g,o,rfl,hg,ho⟩:=HX.out k s hs
      have hgr:wr.heap[g]? = some (.cells o 9 (0,0)):=HK1.out.2.2 g o 9 (by decide) (by intro e;subst e;have h1:=HR1.out.1.box.symm.trans hg;simp at h1) hg
      have c0:wr.cell? ⟨g,k,none⟩ = some (.string s):=by simp only [World.cell?,hgr];exact ho
      have hlt':(k:Int) < (z:Int):=by omega
      clear hs hg ho hgr hle
      go_wp2_with fail
      refine (clos4_any n0 B w0 _ v' s _ HK1.out.1 HS.out).mono ?_
      rintro e w2 ⟨rfl,v2,hr2,ho2⟩
      have HK2:Hid (Rs n0 B w0 ((A.take (k + 1)).foldl Re.st4 r) v2 w2/\OthR B w1 w2):=⟨by rw [HFT.out];exact hr2,HK1.out.2.trans ho2⟩
      clear hr2 ho2 c0
      go_wp2
      go_roundw
      case rel=>exact ⟨k + 1,by omega,by go_num,⟨v2,HK2.out.1,HK2.out.2⟩,by rw [HFT.out];exact HLN.out⟩
      case measure=>simp [intOf];omega
    · obtain rfl : k = z := by omega
      have hlt':¬ (k:Int) < (k:Int):=by omega
      have HT:Hid (A.take k = A):=List.take_of_length_le (by rw [HZ.out];exact Nat.le_refl _)
      rw [HT.out] at HK1
      clear hle
      go_wp2
      go_end0
      first | exact ⟨rfl,v',HK1.out.1,HR1.out.2.trans HK1.out.2⟩ | exact ⟨rfl,⟨v',HK1.out.1⟩,HR1.out.2.trans HK1.out.2⟩
def Re.st5 (r:Rep) (s:ByteArray):Rep:={ r with ents:=r.ents ++ [Re.entOf s] }
theorem Re.st5_len (r:Rep) (s:ByteArray):(Re.st5 r s).ents.length<=r.ents.length + 1:=by simp [Re.st5]
set_option maxHeartbeats 4000000 in
theorem read5_any (n0 B:Nat) (w0:World) (N:Nat) (hN:N<=500000)
    (r:Rep) (v fv:Value) (l:List (Int × ByteArray)) (tag:Int) (w:World) (hr:Rs n0 B w0 r v w) (hl0:r.ents.length<=N) (hf:FieldsAt w.heap.size w fv l) (hlen:l.length<=N) (hsm:∀ x∈l,x.2.size<=65535) :
    Calls Tryz.prog 129 #[fv,.int .i64 tag,.func (Fn.func 137) #[] #[.pointer (some ⟨B,0,none⟩)]] w fun e w'=>e = .returned (.tuple #[])/\∃ v',Rs n0 B w0 ((Pl.allOf l tag).foldl Re.st5 r) v' w'/\OthR B w w':=by
  obtain ⟨A,hA⟩:∃ A,Pl.allOf l tag = A:=⟨_,rfl⟩
  have HA:Hid (Pl.allOf l tag = A):=hA
  have HAS:Hid (∀ s∈A,s.size<=65535):=by
    intro s hs
    rw [← hA] at hs
    unfold Pl.allOf at hs
    obtain ⟨x,hx,rfl⟩:=List.mem_map.1 hs
    exact hsm x (List.mem_filter.1 hx).1
  have hAl:A.length<=N:=by
    rw [← hA]
    unfold Pl.allOf
    rw [List.length_map]
    exact Nat.le_trans (List.length_filter_le _ _) hlen
  rw [hA]
  have HR:Hid (Rs n0 B w0 r v w):=hr
  have HFL:Hid (FieldsAt w.heap.size w fv l):=hf
  clear hA hr hf hsm
  go_enter Tryz.func129,Tryz.ntmps129
  go_wp2_with fail
  refine (all_any fv l tag _ HFL.out (by omega)).mono ?_
  rintro e w1 ⟨r1,rfl,hown,hb1⟩
  rw [HA.out] at hown
  obtain ⟨ao,cap,rfl,hm,hx⟩:=strs_open hown
  unfold maxLen at hm
  obtain ⟨z,hz⟩:∃ z,A.length = z:=⟨_,rfl⟩
  rw [hz] at hm hAl ⊢
  have HZ:Hid (A.length = z):=hz
  have HX:Hid (∀ (i:Nat) (s:ByteArray),A[i]? = some s->∃ (g:Nat) (o:Array Value),ao = some ⟨g,0,none⟩/\w1.heap[g]? = some (.cells o 9 (0,0))/\o[i]? = some (Value.string s)):=hx
  have HR1:Hid (Rs n0 B w0 r v w1/\OthR B w w1):=⟨HR.out.step hb1,OthR.of_below hb1⟩
  clear hown hb1 hx hz
  go_wp2_with fail
  go_loopw [12] (fun i wr=>∃ k:Nat,k<=z/\i = .int .i64 k/\Hid (∃ v',Rs n0 B w0 ((A.take k).foldl Re.st5 r) v' wr/\OthR B w1 wr)/\((A.take k).foldl Re.st5 r).ents.length<=N + k) (fun i _=>z - (intOf i).toNat)
  case atStart=>exact ⟨0,Nat.zero_le _,rfl,⟨v,HR1.out.1,OthR.refl _ _⟩,by simpa using hl0⟩
  case round =>
    obtain ⟨k,hk,rfl,HK,hle⟩:=hrel
    obtain ⟨v',hk1,hk2⟩:=HK.out
    have HK1:Hid (Rs n0 B w0 ((A.take k).foldl Re.st5 r) v' wr/\OthR B w1 wr):=⟨hk1,hk2⟩
    clear HK hk1 hk2
    by_cases hlt:k < z
    · obtain ⟨s, hs⟩ : ∃ s, A[k]? = some s := ⟨_, List.getElem?_eq_getElem (by rw [HZ.out]; exact hlt)⟩
      have HS:Hid (s.size<=65535):=HAS.out s (List.mem_of_getElem? hs)
      have HFT:Hid ((A.take (k + 1)).foldl Re.st5 r = Re.st5 ((A.take k).foldl Re.st5 r) s):=foldl_take Re.st5 r A k s hs
      have HLN:Hid ((Re.st5 ((A.take k).foldl Re.st5 r) s).ents.length<=N + (k + 1)):=by have:=Re.st5_len ((A.take k).foldl Re.st5 r) s;show (Re.st5 ((A.take k).foldl Re.st5 r) s).ents.length<=_;omega
      have HL6:Hid (((A.take k).foldl Re.st5 r).ents.length<=1000000):=by show ((A.take k).foldl Re.st5 r).ents.length<=_;omega
      obtain ⟨g,o,rfl,hg,ho⟩:=HX.out k s hs
      have hgr:wr.heap[g]? = some (.cells o 9 (0,0)):=HK1.out.2.2 g o 9 (by decide) (by intro e;subst e;have h1:=HR1.out.1.box.symm.trans hg;simp at h1) hg
      have c0:wr.cell? ⟨g,k,none⟩ = some (.string s):=by simp only [World.cell?,hgr];exact ho
      have hlt':(k:Int) < (z:Int):=by omega
      clear hs hg ho hgr hle
      go_wp2_with fail
      refine (clos5_any n0 B w0 _ v' s _ HK1.out.1 HS.out HL6.out).mono ?_
      rintro e w2 ⟨rfl,v2,hr2,ho2⟩
      have HK2:Hid (Rs n0 B w0 ((A.take (k + 1)).foldl Re.st5 r) v2 w2/\OthR B w1 w2):=⟨by rw [HFT.out];exact hr2,HK1.out.2.trans ho2⟩
      clear hr2 ho2 c0
      go_wp2
      go_roundw
      case rel=>exact ⟨k + 1,by omega,by go_num,⟨v2,HK2.out.1,HK2.out.2⟩,by rw [HFT.out];exact HLN.out⟩
      case measure=>simp [intOf];omega
    · obtain rfl : k = z := by omega
      have hlt':¬ (k:Int) < (k:Int):=by omega
      have HT:Hid (A.take k = A):=List.take_of_length_le (by rw [HZ.out];exact Nat.le_refl _)
      rw [HT.out] at HK1
      clear hle
      go_wp2
      go_end0
      first | exact ⟨rfl,v',HK1.out.1,HR1.out.2.trans HK1.out.2⟩ | exact ⟨rfl,⟨v',HK1.out.1⟩,HR1.out.2.trans HK1.out.2⟩
def Re.st6 (r:Rep) (s:ByteArray):Rep:={ r with n:=Pl.numVal s }
theorem Re.st6_len (r:Rep) (s:ByteArray):(Re.st6 r s).ents.length<=r.ents.length + 1:=by simp [Re.st6]
set_option maxHeartbeats 4000000 in
theorem read6_any (n0 B:Nat) (w0:World) (N:Nat) (hN:N<=500000)
    (r:Rep) (v fv:Value) (l:List (Int × ByteArray)) (tag:Int) (w:World) (hr:Rs n0 B w0 r v w) (hl0:r.ents.length<=N) (hf:FieldsAt w.heap.size w fv l) (hlen:l.length<=N) (hsm:∀ x∈l,x.2.size<=65535) :
    Calls Tryz.prog 129 #[fv,.int .i64 tag,.func (Fn.func 139) #[] #[.pointer (some ⟨B,0,none⟩)]] w fun e w'=>e = .returned (.tuple #[])/\∃ v',Rs n0 B w0 ((Pl.allOf l tag).foldl Re.st6 r) v' w'/\OthR B w w':=by
  obtain ⟨A,hA⟩:∃ A,Pl.allOf l tag = A:=⟨_,rfl⟩
  have HA:Hid (Pl.allOf l tag = A):=hA
  have HAS:Hid (∀ s∈A,s.size<=65535):=by
    intro s hs
    rw [← hA] at hs
    unfold Pl.allOf at hs
    obtain ⟨x,hx,rfl⟩:=List.mem_map.1 hs
    exact hsm x (List.mem_filter.1 hx).1
  have hAl:A.length<=N:=by
    rw [← hA]
    unfold Pl.allOf
    rw [List.length_map]
    exact Nat.le_trans (List.length_filter_le _ _) hlen
  rw [hA]
  have HR:Hid (Rs n0 B w0 r v w):=hr
  have HFL:Hid (FieldsAt w.heap.size w fv l):=hf
  clear hA hr hf hsm
  go_enter Tryz.func129,Tryz.ntmps129
  go_wp2_with fail
  refine (all_any fv l tag _ HFL.out (by omega)).mono ?_
  rintro e w1 ⟨r1,rfl,hown,hb1⟩
  rw [HA.out] at hown
  obtain ⟨ao,cap,rfl,hm,hx⟩:=strs_open hown
  unfold maxLen at hm
  obtain ⟨z,hz⟩:∃ z,A.length = z:=⟨_,rfl⟩
  rw [hz] at hm hAl ⊢
  have HZ:Hid (A.length = z):=hz
  have HX:Hid (∀ (i:Nat) (s:ByteArray),A[i]? = some s->∃ (g:Nat) (o:Array Value),ao = some ⟨g,0,none⟩/\w1.heap[g]? = some (.cells o 9 (0,0))/\o[i]? = some (Value.string s)):=hx
  have HR1:Hid (Rs n0 B w0 r v w1/\OthR B w w1):=⟨HR.out.step hb1,OthR.of_below hb1⟩
  clear hown hb1 hx hz
  go_wp2_with fail
  go_loopw [12] (fun i wr=>∃ k:Nat,k<=z/\i = .int .i64 k/\Hid (∃ v',Rs n0 B w0 ((A.take k).foldl Re.st6 r) v' wr/\OthR B w1 wr)/\((A.take k).foldl Re.st6 r).ents.length<=N + k) (fun i _=>z - (intOf i).toNat)
  case atStart=>exact ⟨0,Nat.zero_le _,rfl,⟨v,HR1.out.1,OthR.refl _ _⟩,by simpa using hl0⟩
  case round =>
    obtain ⟨k,hk,rfl,HK,hle⟩:=hrel
    obtain ⟨v',hk1,hk2⟩:=HK.out
    have HK1:Hid (Rs n0 B w0 ((A.take k).foldl Re.st6 r) v' wr/\OthR B w1 wr):=⟨hk1,hk2⟩
    clear HK hk1 hk2
    by_cases hlt:k < z
    · obtain ⟨s, hs⟩ : ∃ s, A[k]? = some s := ⟨_, List.getElem?_eq_getElem (by rw [HZ.out]; exact hlt)⟩
      have HS:Hid (s.size<=65535):=HAS.out s (List.mem_of_getElem? hs)
      have HFT:Hid ((A.take (k + 1)).foldl Re.st6 r = Re.st6 ((A.take k).foldl Re.st6 r) s):=foldl_take Re.st6 r A k s hs
      have HLN:Hid ((Re.st6 ((A.take k).foldl Re.st6 r) s).ents.length<=N + (k + 1)):=by have:=Re.st6_len ((A.take k).foldl Re.st6 r) s;show (Re.st6 ((A.take k).foldl Re.st6 r) s).ents.length<=_;omega
      have HL6:Hid (((A.take k).foldl Re.st6 r).ents.length<=1000000):=by show ((A.take k).foldl Re.st6 r).ents.length<=_;omega
      obtain ⟨g,o,rfl,hg,ho⟩:=HX.out k s hs
      have hgr:wr.heap[g]? = some (.cells o 9 (0,0)):=HK1.out.2.2 g o 9 (by decide) (by intro e;subst e;have h1:=HR1.out.1.box.symm.trans hg;simp at h1) hg
      have c0:wr.cell? ⟨g,k,none⟩ = some (.string s):=by simp only [World.cell?,hgr];exact ho
      have hlt':(k:Int) < (z:Int):=by omega
      clear hs hg ho hgr hle
      go_wp2_with fail
      refine (clos6_any n0 B w0 _ v' s _ HK1.out.1 HS.out).mono ?_
      rintro e w2 ⟨rfl,v2,hr2,ho2⟩
      have HK2:Hid (Rs n0 B w0 ((A.take (k + 1)).foldl Re.st6 r) v2 w2/\OthR B w1 w2):=⟨by rw [HFT.out];exact hr2,HK1.out.2.trans ho2⟩
      clear hr2 ho2 c0
      go_wp2
      go_roundw
      case rel=>exact ⟨k + 1,by omega,by go_num,⟨v2,HK2.out.1,HK2.out.2⟩,by rw [HFT.out];exact HLN.out⟩
      case measure=>simp [intOf];omega
    · obtain rfl : k = z := by omega
      have hlt':¬ (k:Int) < (k:Int):=by omega
      have HT:Hid (A.take k = A):=List.take_of_length_le (by rw [HZ.out];exact Nat.le_refl _)
      rw [HT.out] at HK1
      clear hle
      go_wp2
      go_end0
      first | exact ⟨rfl,v',HK1.out.1,HR1.out.2.trans HK1.out.2⟩ | exact ⟨rfl,⟨v',HK1.out.1⟩,HR1.out.2.trans HK1.out.2⟩
end Go.Proofs.YtggoccfddnpelaaGreat.Ks.Rs
