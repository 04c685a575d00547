/- ZInv, ZSz, ZOk, EBase, as one. -/
import Derived.Test.YtggoccfddnpelaaGreatR26
namespace Go.Proofs.YtggoccfddnpelaaGreat
open It Go.RowKit
set_option maxRecDepth 100000
namespace Sh
theorem fold_map {α β γ:Type} (st:β->γ->β) (f:α->γ) (up:β->List α->β) (y:β) (l:List α) (h0:up y [] = y) (hs:∀ m x,x∈l->st (up y m) (f x) = up y (m ++ [x])):(l.map f).foldl st y = up y l:=by
  have go:∀ (k m:List α),m ++ k = l->(k.map f).foldl st (up y m) = up y l:=by
    intro k
    induction k with
    | nil=>intro m e;rw [List.append_nil] at e;subst e;rfl
    | cons x k ih =>
      intro m e
      rw [List.map_cons,List.foldl_cons,hs m x (by rw [← e];simp)]
      exact ih (m ++ [x]) (by rw [← e];simp)
  have:=go l [] rfl
  rwa [h0] at this
theorem pe_seg {t last:Int} {m:List F} (ht:1<=t/\t<=255):∀ (l:List F),last<=t->(∀ f∈l,f.1 = t/\f.2.size<=65535)->Ks.Pl.packErr t m = 0->Ks.Pl.packErr last m = 0->Ks.Pl.packErr last (l ++ m) = 0:=by
  intro l
  induction l generalizing last with
  | nil=>intro _ _ _ h;exact h
  | cons x l ih =>
    intro hl hx hm hm'
    obtain ⟨h1,h2⟩:=hx x (by simp)
    have hb:Ks.Pl.badAt last x = 0:=by
      unfold Ks.Pl.badAt
      rw [if_neg (by omega),if_neg (by omega),if_neg (by omega)]
    show (if Ks.Pl.badAt last x = 0 then Ks.Pl.packErr x.1 (l ++ m) else _) = 0
    rw [if_pos hb,h1]
    exact ih (Int.le_refl _) (fun f hf=>hx f (by simp [hf])) hm hm
/-- What a right inode's parts are. -/
structure Bd (x:Ino):Prop where
  gen:1<=x.gen/\x.gen<=1099511627776
  at_:Ks.Rs.At.right x.kind x.links x.size x.stamp = true
  next:0<=x.next/\x.next<=1099511627776
  runs:∀ r∈x.runs,(0<=r.1/\r.1<=1048576)/\r.2.size<=8192
  ents:∀ y∈x.ents,(1<=y.2.1/\y.2.1<=1099511627776)/\Ks.Ak.hokP y.2.2.1 y.2.2.2/\y.1.size<=32
theorem at_eq {k l s t:Int} (h:At.right k l s t = true):Ks.Rs.At.right k l s t = true:=Ks.Rs.At.right_iff.2 (At.right_iff.1 h)
theorem run_size:∀ {l:List (Int × ByteArray)} {r:Int × ByteArray},r∈l->r.2.size<=Nf.tot l
  | x :: l, r, h => by
    have e:Nf.tot (x :: l) = x.2.size + Nf.tot l:=by simp [Nf.tot,Bs.Bl.total]
    rcases List.mem_cons.1 h with rfl | h
    · omega
    · have:=run_size h;omega
theorem tot_By:∀ {L:List Ino} {x:Ino},x∈L->Nf.tot x.runs<=Nf.By L
  | y :: L, x, h => by
    rw [Nf.By_cons]
    rcases List.mem_cons.1 h with rfl | h
    · omega
    · have:=tot_By h;omega
theorem runs_at:∀ {l:List (Int × ByteArray)} {a:Int},Bl.right a l->-1<=a->∀ r∈l,0<=r.1/\r.1<=1048576
  | x :: l, a, h, ha, r, hr => by
    obtain ⟨⟨h1,h2,h3⟩,h4⟩:=h
    have e:Bl.MAX = 1048576:=rfl
    rcases List.mem_cons.1 hr with rfl | hr
    · omega
    · exact runs_at h4 (by unfold Bl.rend;omega) r hr
theorem bd_of {L : List Ino} (hs : Sp.isSp L = true) (hb : allBytes L ≤ 8192) {x : Ino} (hx : x ∈ L) : Bd x := by
  obtain ⟨h1,h2,-,-⟩:=Sp.isSp_iff.1 hs
  have ho:=(It.right_iff.1 h1).2.2 x hx
  have hby:=Nf.all_by h1
  have hg:=one_bd ho
  have hh:=ho
  unfold one at hh
  simp only [Bool.and_eq_true] at hh
  obtain ⟨-,ha,h3⟩:=hh
  have hrr:=runs_at (Nf.runs_right ho) (Int.le_refl _)
  refine ⟨hg,at_eq ha,?_,fun r hr=>⟨hrr r hr,?_⟩,?_⟩
  · by_cases hk : x.kind = 2
    · exact (h2 x hx hk).1.1
    · rw [if_neg hk] at h3
      split at h3 <;> simp only [Bool.and_eq_true,decide_eq_true_eq] at h3 <;> omega
  · have a := run_size hr
    have b:=tot_By hx
    omega
  · intro y hy
    by_cases hk:x.kind = 2
    · obtain ⟨⟨h0, hp, -⟩, -⟩ := h2 x hx hk
      obtain ⟨i,hi⟩:=List.mem_iff_getElem?.1 hy
      have hlt:=(List.getElem?_eq_some_iff.1 hi).1
      obtain ⟨g1,g2,g3⟩:=hp i hlt y hi
      have g5:0<=Fo.lastC x.ents i:=(Fo.lastC_bd (fun j hj=>hp j (by omega)) (Nat.le_of_lt hlt) h0.1).1
      obtain ⟨⟨a1,a2⟩,a3,a4⟩:=g3
      exact ⟨⟨by omega,by omega⟩,⟨⟨a1,by omega⟩,by omega,a4⟩,g1.2.1⟩
    · rw [if_neg hk] at h3
      have:x.ents = []:=by
        split at h3 <;> simp only [Bool.and_eq_true,decide_eq_true_eq] at h3 <;> exact List.isEmpty_iff.1 (by simp [h3])
      rw [this] at hy
      cases hy
theorem le6 {n:Int} (h:0<=n/\n<=1099511627776):(nb n 6).size = 6/\Ks.Pl.numVal (nb n 6) = n:=nb_size (z:=6) h.1 (by decide) (by decide) (by have:((256:Int) ^ 6) = 281474976710656:=(by decide);omega)
theorem le1 {n:Int} (h:0<=n/\n<=255):(nb n 1).size = 1/\Ks.Pl.numVal (nb n 1) = n:=nb_size (z:=1) h.1 (by decide) (by decide) (by have:((256:Int) ^ 1) = 256:=(by decide);omega)
theorem le4 {n:Int} (h:0<=n/\n<=1048576):(nb n 4).size = 4/\Ks.Pl.numVal (nb n 4) = n:=nb_size (z:=4) h.1 (by decide) (by decide) (by have:((256:Int) ^ 4) = 4294967296:=(by decide);omega)
theorem hb_size {no gen:Int} (h:Ks.Ak.hokP no gen):(Ks.Ak.hbytes no gen).size = 7:=Ks.Ak.hbytes_size h
theorem rdH_back {no gen:Int} (h:Ks.Ak.hokP no gen) (b:ByteArray):rdH (Ks.Ak.hbytes no gen ++ b) = (no,gen)/\dr 6 (dr 1 (Ks.Ak.hbytes no gen ++ b)) = b:=by
  obtain ⟨h1,h2⟩:=h
  obtain ⟨s1,v1⟩:=le1 h1
  obtain ⟨s6,v6⟩:=le6 h2
  have e:Ks.Ak.hbytes no gen ++ b = nb no 1 ++ (nb gen 6 ++ b):=by unfold Ks.Ak.hbytes;rw [Ks.Rs.Pl.ba_assoc]
  obtain ⟨c1,c2⟩:=cut0 (nb no 1) (nb gen 6 ++ b) s1
  obtain ⟨d1,d2⟩:=cut0 (nb gen 6) b s6
  unfold rdH nm
  rw [e,c1,c2,d1,d2,v1,v6]
  exact ⟨rfl,rfl⟩
theorem rdH_back' {no gen:Int} (h:Ks.Ak.hokP no gen):rdH (Ks.Ak.hbytes no gen) = (no,gen):=by
  have:=(rdH_back h ⟨#[]⟩).1
  rwa [Ks.Rs.Pl.ba_nil'] at this
theorem rdO_back {o:Os.Opn} (h1:0<=o.1/\o.1<=255) (h2:0<=o.2.1/\o.2.1<=1099511627776) (h3:Ks.Ak.hokP o.2.2.1 o.2.2.2):rdO (opF o).2 = o/\qO (opF o).2 = o:=by
  obtain ⟨s1,v1⟩:=le1 h1
  obtain ⟨s6,v6⟩:=le6 h2
  obtain ⟨g1,v2⟩:=le1 h3.1
  obtain ⟨g6,v7⟩:=le6 h3.2
  have e:(opF o).2 = nb o.1 1 ++ (nb o.2.1 6 ++ Ks.Ak.hbytes o.2.2.1 o.2.2.2):=by unfold opF;rw [Ks.Rs.Pl.ba_assoc]
  obtain ⟨c1,c2⟩:=cut0 (nb o.1 1) (nb o.2.1 6 ++ Ks.Ak.hbytes o.2.2.1 o.2.2.2) s1
  obtain ⟨d1,d2⟩:=cut0 (nb o.2.1 6) (Ks.Ak.hbytes o.2.2.1 o.2.2.2) s6
  refine ⟨?_,?_⟩
  · unfold rdO nm
    rw [e,c1,c2,d1,d2,v1,v6,rdH_back' h3]
  · have p0 := pt_at ⟨#[]⟩ (nb o.1 1) (nb o.2.1 6 ++ Ks.Ak.hbytes o.2.2.1 o.2.2.2) (i := 0) rfl s1
    rw [Ks.Rs.Pl.ba_nil,← e,v1] at p0
    have p1:=pt_at (nb o.1 1) (nb o.2.1 6) (Ks.Ak.hbytes o.2.2.1 o.2.2.2) s1 s6
    rw [Ks.Rs.Pl.ba_assoc,← e,v6] at p1
    have e2:(opF o).2 = (nb o.1 1 ++ nb o.2.1 6) ++ nb o.2.2.1 1 ++ nb o.2.2.2 6:=by unfold opF Ks.Ak.hbytes;rw [Ks.Rs.Pl.ba_assoc (nb o.1 1 ++ nb o.2.1 6)]
    have p2:=pt_at (nb o.1 1 ++ nb o.2.1 6) (nb o.2.2.1 1) (nb o.2.2.2 6) (i:=7) (by rw [ByteArray.size_append];omega) g1
    rw [← e2,v2] at p2
    have p3:=pt_at (nb o.1 1 ++ nb o.2.1 6 ++ nb o.2.2.1 1) (nb o.2.2.2 6) ⟨#[]⟩ (i:=8) (by rw [ByteArray.size_append,ByteArray.size_append];omega) g6
    rw [Ks.Rs.Pl.ba_nil',← e2,v7] at p3
    unfold qO
    rw [p0,p1,p2,p3]
theorem rdZ_back {z:Es.Sea} (h1:0<=z.1/\z.1<=1099511627776) (h2:0<=z.2.1/\z.2.1<=1099511627776):rdZ (seF z).2 = z/\qZ (seF z).2 = z:=by
  obtain ⟨s1,v1⟩:=le6 h1
  obtain ⟨s6,v6⟩:=le6 h2
  have e:(seF z).2 = nb z.1 6 ++ (nb z.2.1 6 ++ z.2.2):=by unfold seF;rw [Ks.Rs.Pl.ba_assoc]
  obtain ⟨c1,c2⟩:=cut0 (nb z.1 6) (nb z.2.1 6 ++ z.2.2) s1
  obtain ⟨d1,d2⟩:=cut0 (nb z.2.1 6) z.2.2 s6
  refine ⟨?_,?_⟩
  · unfold rdZ nm
    rw [e,c1,c2,d1,d2,v1,v6]
  · have p0 := pt_at ⟨#[]⟩ (nb z.1 6) (nb z.2.1 6 ++ z.2.2) (i := 0) rfl s1
    rw [Ks.Rs.Pl.ba_nil,← e,v1] at p0
    have p1:=pt_at (nb z.1 6) (nb z.2.1 6) z.2.2 s1 s6
    rw [v6] at p1
    have p2:=rs_at (nb z.1 6 ++ nb z.2.1 6) z.2.2 (i:=12) (by rw [ByteArray.size_append];omega)
    unfold qZ
    rw [p0]
    show (z.1,pt (nb z.1 6 ++ nb z.2.1 6 ++ z.2.2) 6 6,rs (nb z.1 6 ++ nb z.2.1 6 ++ z.2.2) 12) = z
    rw [p1,p2]
theorem rdR_back {r:Int × ByteArray} (h:0<=r.1/\r.1<=1048576):rdR (runF r).2 = r/\qR (runF r).2 = r:=by
  obtain ⟨s1,v1⟩:=le4 h
  obtain ⟨c1,c2⟩:=cut0 (nb r.1 4) r.2 s1
  have p0:=pt_at ⟨#[]⟩ (nb r.1 4) r.2 (i:=0) rfl s1
  rw [Ks.Rs.Pl.ba_nil,v1] at p0
  have p2:=rs_at (nb r.1 4) r.2 s1
  refine ⟨?_,?_⟩
  · show (Ks.Pl.numVal (tk 4 (nb r.1 4 ++ r.2)), dr 4 (nb r.1 4 ++ r.2)) = r
    rw [c1,c2,v1]
  · show (pt (nb r.1 4 ++ r.2) 0 4, rs (nb r.1 4 ++ r.2) 4) = r
    rw [p0,p2]
theorem rdE_back {y:ByteArray × Int × Int × Int} (h1:1<=y.2.1/\y.2.1<=1099511627776) (h3:Ks.Ak.hokP y.2.2.1 y.2.2.2):rdE (entF y).2 = y/\qE (entF y).2 = y:=by
  obtain ⟨s6,v6⟩:=le6 ⟨by omega,h1.2⟩
  obtain ⟨g1,v2⟩:=le1 h3.1
  obtain ⟨g6,v7⟩:=le6 h3.2
  have e:(entF y).2 = nb y.2.1 6 ++ (Ks.Ak.hbytes y.2.2.1 y.2.2.2 ++ y.1):=by unfold entF;rw [Ks.Rs.Pl.ba_assoc]
  obtain ⟨c1,c2⟩:=cut0 (nb y.2.1 6) (Ks.Ak.hbytes y.2.2.1 y.2.2.2 ++ y.1) s6
  obtain ⟨d1,d2⟩:=rdH_back h3 y.1
  refine ⟨?_,?_⟩
  · unfold rdE nm
    rw [e,c1,c2,d1,d2,v6]
  · have p0 := pt_at ⟨#[]⟩ (nb y.2.1 6) (Ks.Ak.hbytes y.2.2.1 y.2.2.2 ++ y.1) (i := 0) rfl s6
    rw [Ks.Rs.Pl.ba_nil,← e,v6] at p0
    have e2:(entF y).2 = nb y.2.1 6 ++ nb y.2.2.1 1 ++ (nb y.2.2.2 6 ++ y.1):=by unfold entF Ks.Ak.hbytes;simp only [Ks.Rs.Pl.ba_assoc]
    have p1:=pt_at (nb y.2.1 6) (nb y.2.2.1 1) (nb y.2.2.2 6 ++ y.1) s6 g1
    rw [← e2,v2] at p1
    have e3:(entF y).2 = (nb y.2.1 6 ++ nb y.2.2.1 1) ++ nb y.2.2.2 6 ++ y.1:=by unfold entF Ks.Ak.hbytes;simp only [Ks.Rs.Pl.ba_assoc]
    have p2:=pt_at (nb y.2.1 6 ++ nb y.2.2.1 1) (nb y.2.2.2 6) y.1 (i:=7) (by rw [ByteArray.size_append];omega) g6
    rw [← e3,v7] at p2
    have p3:=rs_at (nb y.2.1 6 ++ nb y.2.2.1 1 ++ nb y.2.2.2 6) y.1 (i:=13) (by rw [ByteArray.size_append,ByteArray.size_append];omega)
    rw [← e3] at p3
    unfold qE
    rw [p0,p1,p2,p3]
theorem head_parts {x:Ino} (h:Bd x):(head x).size = 24/\nm 6 (head x) = x.gen/\rdA (dr 6 (head x)) = (x.kind,x.links,x.size,x.stamp)/\nm 6 (dr 12 (dr 6 (head x))) = x.next/\pt (head x) 0 6 = x.gen/\qA (head x) = (x.kind,x.links,x.size,x.stamp)/\pt (head x) 18 6 = x.next:=by
  obtain ⟨s6,v6⟩:=le6 (n:=x.gen) ⟨by have:=h.gen;omega,h.gen.2⟩
  obtain ⟨g6,w6⟩:=le6 h.next
  have s12:(Ks.Rs.At.packOut x.kind x.links x.size x.stamp).size = 12:=(Ks.Rs.At.back h.at_).1
  have ub:=Ks.Rs.Re.ua_back h.at_
  have e:head x = nb x.gen 6 ++ (Ks.Rs.At.packOut x.kind x.links x.size x.stamp ++ nb x.next 6):=by unfold head;rw [Ks.Rs.Pl.ba_assoc]
  have e1:head x = nb x.gen 6 ++ Ks.Rs.At.packOut x.kind x.links x.size x.stamp ++ nb x.next 6:=rfl
  generalize Ks.Rs.At.packOut x.kind x.links x.size x.stamp = A at *
  obtain ⟨c1,c2⟩:=cut0 (nb x.gen 6) (A ++ nb x.next 6) s6
  obtain ⟨d1,d2⟩:=cut0 A (nb x.next 6) s12
  have p0:=pt_at ⟨#[]⟩ (nb x.gen 6) (A ++ nb x.next 6) (i:=0) rfl s6
  rw [Ks.Rs.Pl.ba_nil,v6] at p0
  have p3:=pt_at (nb x.gen 6 ++ A) (nb x.next 6) ⟨#[]⟩ (i:=18) (by rw [ByteArray.size_append];omega) g6
  rw [Ks.Rs.Pl.ba_nil',← e1,w6] at p3
  have p2:(head x).extract 6 18 = A:=by rw [e1];exact Ks.Rs.Pl.cut_mid _ _ _ 6 18 s6 (by omega)
  refine ⟨by rw [e,ByteArray.size_append,ByteArray.size_append];omega,?_,?_,?_,?_,?_,p3⟩
  · unfold nm;rw [e,c1,v6]
  · unfold rdA;rw [e,c2,d1,ub]
  · unfold nm;rw [e,c2,d2,cutE _ g6,w6]
  · rw [e,p0]
  · unfold qA;rw [p2,ub]
theorem fI_ok {x:Ino} (h:Bd x):Ks.Pl.packErr 1 (fI x) = 0:=by
  have hh:=(head_parts h).1
  have hr:∀ f∈x.runs.map runF,f.1 = 2/\f.2.size<=65535:=fun f hf=>by
    obtain ⟨r,hr,rfl⟩:=List.mem_map.1 hf
    obtain ⟨r1,r2⟩:=h.runs r hr
    have:=(le4 r1).1
    refine ⟨rfl,?_⟩
    show (nb r.1 4 ++ r.2).size<=_
    rw [ByteArray.size_append]
    omega
  have he:∀ f∈x.ents.map entF,f.1 = 3/\f.2.size<=65535:=fun f hf=>by
    obtain ⟨y,hy,rfl⟩:=List.mem_map.1 hf
    obtain ⟨r1,r2,r3⟩:=h.ents y hy
    have:=(le6 (n:=y.2.1) ⟨by omega,r1.2⟩).1
    have:=hb_size r2
    refine ⟨rfl,?_⟩
    show (nb y.2.1 6 ++ Ks.Ak.hbytes y.2.2.1 y.2.2.2 ++ y.1).size<=_
    rw [ByteArray.size_append,ByteArray.size_append]
    omega
  have e3:=pe_seg (m:=[]) (t:=3) (by decide) (x.ents.map entF) (last:=3) (Int.le_refl _) he rfl rfl
  have e2:=pe_seg (m:=[]) (t:=3) (by decide) (x.ents.map entF) (last:=2) (by decide) he rfl rfl
  have e1:=pe_seg (m:=[]) (t:=3) (by decide) (x.ents.map entF) (last:=1) (by decide) he rfl rfl
  rw [List.append_nil] at e1 e2 e3
  have hb:Ks.Pl.badAt 1 (1,head x) = 0:=by
    unfold Ks.Pl.badAt
    rw [if_neg (by simp),if_neg (by simp only;omega),if_neg (by simp)]
  show (if Ks.Pl.badAt 1 (1,head x) = 0 then Ks.Pl.packErr 1 (x.runs.map runF ++ x.ents.map entF) else _) = 0
  rw [if_pos hb]
  exact pe_seg (by decide) _ (by decide) hr e2 e1
theorem unp_of {l:List F} (h:Ks.Pl.packErr 1 l = 0):Ks.Pl.unpOut (Ks.Pl.packOut l).data.toList = l/\Ks.Pl.unpErr (Ks.Pl.packOut l).data.toList = 0:=by
  unfold Ks.Pl.packOut
  rw [if_pos h,Ks.Pl.txt_data]
  exact Ks.Pl.unp_encs l h
theorem back_I {x:Ino} (h:Bd x):rdI (inoB x) = x/\qI (inoB x) = x:=by
  obtain ⟨h0,h1,h2,h3,h4,h5,h6⟩:=head_parts h
  have hu:=(unp_of (fI_ok h)).1
  unfold rdI qI inoB
  rw [hu]
  unfold fI
  rw [List.foldl_cons,List.foldl_append,List.foldl_cons,List.foldl_append]
  have a1:stI zeroI (1,head x) = ⟨x.gen,x.kind,x.links,x.size,x.stamp,[],[],x.next⟩:=by
    unfold stI
    rw [if_pos rfl]
    simp only [h1,h2,h3,zeroI]
  have b1:qtI zeroI (1,head x) = ⟨x.gen,x.kind,x.links,x.size,x.stamp,[],[],x.next⟩:=by
    unfold qtI
    rw [if_pos rfl,if_pos h0]
    simp only [h4,h5,h6,zeroI]
  rw [a1,b1]
  have a2:=fold_map stI runF (fun y l=>{ y with runs:=y.runs ++ l }) ⟨x.gen,x.kind,x.links,x.size,x.stamp,[],[],x.next⟩ x.runs rfl fun m r hr=>by
    show stI _ (2,nb r.1 4 ++ r.2) = _
    unfold stI
    rw [if_neg (by simp),if_pos rfl]
    simp only [show rdR (nb r.1 4 ++ r.2) = r from (rdR_back (h.runs r hr).1).1,List.append_assoc]
  have b2:=fold_map qtI runF (fun y l=>{ y with runs:=y.runs ++ l }) ⟨x.gen,x.kind,x.links,x.size,x.stamp,[],[],x.next⟩ x.runs rfl fun m r hr=>by
    show qtI _ (2,nb r.1 4 ++ r.2) = _
    unfold qtI
    rw [if_neg (by simp),if_pos rfl]
    simp only [show qR (nb r.1 4 ++ r.2) = r from (rdR_back (h.runs r hr).1).2,List.append_assoc]
  rw [a2,b2]
  have a3:=fold_map stI entF (fun y l=>{ y with ents:=y.ents ++ l }) ⟨x.gen,x.kind,x.links,x.size,x.stamp,[] ++ x.runs,[],x.next⟩ x.ents rfl fun m r hr=>by
    show stI _ (3,(entF r).2) = _
    unfold stI
    rw [if_neg (by simp),if_neg (by simp),if_pos rfl]
    simp only [(rdE_back (h.ents r hr).1 (h.ents r hr).2.1).1,List.append_assoc]
  have b3:=fold_map qtI entF (fun y l=>{ y with ents:=y.ents ++ l }) ⟨x.gen,x.kind,x.links,x.size,x.stamp,[] ++ x.runs,[],x.next⟩ x.ents rfl fun m r hr=>by
    show qtI _ (3,(entF r).2) = _
    unfold qtI
    rw [if_neg (by simp),if_neg (by simp),if_pos rfl]
    simp only [(rdE_back (h.ents r hr).1 (h.ents r hr).2.1).2,List.append_assoc]
  exact ⟨a3,b3⟩
/-- A whole state's parts. -/
structure Wh (L:List Ino) (O:List Os.Opn) (Z:List Es.Sea) (dn:Int):Prop where
  bd:∀ x∈L,Bd x
  os:∀ o∈O,(0<=o.1/\o.1<=255)/\(0<=o.2.1/\o.2.1<=1099511627776)/\Ks.Ak.hokP o.2.2.1 o.2.2.2
  zs:∀ z∈Z,(0<=z.1/\z.1<=1099511627776)/\(0<=z.2.1/\z.2.1<=1099511627776)/\z.2.2.size<=8192
  dn:0<=dn/\dn<=1099511627776
  lens:L.length<=24/\O.length<=16/\Z.length<=6
theorem wh_of {L:List Ino} {O:List Os.Opn} {Z:List Es.Sea} {dn:Int} (h:whole L O Z dn = true):Wh L O Z dn:=by
  unfold whole at h
  simp only [Bool.and_eq_true] at h
  obtain ⟨h1,h2,-⟩:=h
  unfold Nf.right at h1
  simp only [Bool.and_eq_true,decide_eq_true_eq] at h1
  obtain ⟨a1,a2,-,a3,a4⟩:=h1
  obtain ⟨b1,b2,-⟩:=(Es.Se.ok_iff Z).1 h2
  refine ⟨fun x hx=>bd_of a1 a3 hx,fun o ho=>?_,fun z hz=>?_,(Nf.doneOk_iff.1 a4).1,(It.right_iff.1 (Sp.isSp_iff.1 a1).1).1.2,Os.Op.right_len a2,b1⟩
  · obtain ⟨g1, g2, ⟨g3, g4⟩, g5, g6⟩ := ((Os.Op.right_iff O 0).1 a2).1 o ho
    exact ⟨⟨g1.1,by omega⟩,g2,⟨⟨g3,by omega⟩,by omega,g6⟩⟩
  · obtain ⟨g1, ⟨g2, g3⟩, g4⟩ := b2 z hz
    exact ⟨g1,⟨by omega,g3⟩,g4⟩
theorem back_S {L:List Ino} {O:List Os.Opn} {Z:List Es.Sea} {dn:Int} (h:Wh L O Z dn) (hp:Ks.Pl.packErr 1 (fS L O Z dn) = 0):rdS (Ks.Pl.packOut (fS L O Z dn)) = ⟨L,O,Z,dn⟩/\qS (Ks.Pl.packOut (fS L O Z dn)) = ⟨L,O,Z,dn⟩:=by
  have hu:=(unp_of hp).1
  obtain ⟨s6,v6⟩:=le6 h.dn
  unfold rdS qS
  rw [hu]
  unfold fS
  rw [List.foldl_cons,List.foldl_append,List.foldl_append,List.foldl_cons,List.foldl_append,List.foldl_append]
  have a1:stS st0 (1,nb dn 6) = ⟨[],[],[],dn⟩:=by
    unfold stS nm
    rw [if_pos rfl]
    simp only [cutE _ s6,v6,st0]
  have b1:qtS st0 (1,nb dn 6) = ⟨[],[],[],dn⟩:=by
    have p0:=pt_at ⟨#[]⟩ (nb dn 6) ⟨#[]⟩ (i:=0) rfl s6
    rw [Ks.Rs.Pl.ba_nil,Ks.Rs.Pl.ba_nil',v6] at p0
    unfold qtS
    rw [if_pos rfl]
    simp only [p0,st0]
  rw [a1,b1]
  have a2:=fold_map stS inoF (fun y l=>{ y with L:=y.L ++ l }) ⟨[],[],[],dn⟩ L rfl fun m x hx=>by
    show stS _ (2,inoB x) = _
    unfold stS
    rw [if_neg (by simp),if_pos rfl]
    simp only [(back_I (h.bd x hx)).1,List.append_assoc]
  have b2:=fold_map qtS inoF (fun y l=>{ y with L:=y.L ++ l }) ⟨[],[],[],dn⟩ L rfl fun m x hx=>by
    show qtS _ (2,inoB x) = _
    unfold qtS
    rw [if_neg (by simp),if_pos rfl]
    simp only [(back_I (h.bd x hx)).2,List.append_assoc]
  rw [a2,b2]
  have a3:=fold_map stS opF (fun y l=>{ y with O:=y.O ++ l }) ⟨[] ++ L,[],[],dn⟩ O rfl fun m x hx=>by
    show stS _ (3,(opF x).2) = _
    unfold stS
    rw [if_neg (by simp),if_neg (by simp),if_pos rfl]
    simp only [(rdO_back (h.os x hx).1 (h.os x hx).2.1 (h.os x hx).2.2).1,List.append_assoc]
  have b3:=fold_map qtS opF (fun y l=>{ y with O:=y.O ++ l }) ⟨[] ++ L,[],[],dn⟩ O rfl fun m x hx=>by
    show qtS _ (3,(opF x).2) = _
    unfold qtS
    rw [if_neg (by simp),if_neg (by simp),if_pos rfl]
    simp only [(rdO_back (h.os x hx).1 (h.os x hx).2.1 (h.os x hx).2.2).2,List.append_assoc]
  rw [a3,b3]
  have a4:=fold_map stS seF (fun y l=>{ y with Z:=y.Z ++ l }) ⟨[] ++ L,[] ++ O,[],dn⟩ Z rfl fun m x hx=>by
    show stS _ (4,(seF x).2) = _
    unfold stS
    rw [if_neg (by simp),if_neg (by simp),if_neg (by simp),if_pos rfl]
    simp only [(rdZ_back (h.zs x hx).1 (h.zs x hx).2.1).1,List.append_assoc]
  have b4:=fold_map qtS seF (fun y l=>{ y with Z:=y.Z ++ l }) ⟨[] ++ L,[] ++ O,[],dn⟩ Z rfl fun m x hx=>by
    show qtS _ (4,(seF x).2) = _
    unfold qtS
    rw [if_neg (by simp),if_neg (by simp),if_neg (by simp),if_pos rfl]
    simp only [(rdZ_back (h.zs x hx).1 (h.zs x hx).2.1).2,List.append_assoc]
  exact ⟨a4,b4⟩
/-- There and back. -/
theorem pk_back {L:List Ino} {O:List Os.Opn} {Z:List Es.Sea} {dn:Int} (h:pkE L O Z dn = 0):whole L O Z dn = true/\rdS (pkO L O Z dn) = ⟨L,O,Z,dn⟩/\qS (pkO L O Z dn) = ⟨L,O,Z,dn⟩:=by
  unfold pkE at h
  by_cases hw:whole L O Z dn = true
  · rw [if_pos hw] at h
    have:=back_S (wh_of hw) h
    unfold pkO
    rw [if_pos hw]
    exact ⟨hw,this⟩
  · rw [if_neg hw] at h
    exact absurd h (by decide)
/-- What both read is the same, where it counts. -/
theorem isS_q (b:ByteArray):isS (qS b) b = isS (rdS b) b/\(isS (rdS b) b = true->qS b = rdS b):=by
  have key:∀ x:Sta,isS x b = true->rdS b = x/\qS b = x:=fun x hx=>by
    unfold isS at hx
    simp only [Bool.and_eq_true,decide_eq_true_eq] at hx
    obtain ⟨h1,h2⟩:=hx
    obtain ⟨-,h3,h4⟩:=pk_back h1
    rw [h2] at h3 h4
    exact ⟨h3,h4⟩
  refine ⟨?_,fun h=>(key _ h).2⟩
  cases h1:isS (rdS b) b with
  | true =>
    have:=(key _ h1).2
    rw [this,h1]
  | false =>
    cases h2:isS (qS b) b with
    | false=>rfl
    | true =>
      have:=(key _ h2).1
      rw [this] at h1
      rw [h1] at h2
      cases h2
end Sh
namespace Sh
/-- Not too many runs and entries. -/
def Sm (L:List Ino):Prop:=∀ x∈L,x.runs.length<=30000/\x.ents.length<=30000
theorem one_len (f:F):(Ks.Pl.encOne f).length = 3 + f.2.size:=by
  obtain ⟨t,s⟩:=f
  have e:s.data.toList.length = s.size:=by simp
  show ([_,_,_] ++ s.data.toList).length = 3 + s.size
  rw [List.length_append,e]
  rfl
theorem encs_one (f:F) (l:List F):(Ks.Pl.encs (f :: l)).length = 3 + f.2.size + (Ks.Pl.encs l).length:=by
  show (List.flatMap Ks.Pl.encOne (f :: l)).length = _
  rw [List.flatMap_cons,List.length_append,one_len]
  rfl
theorem encs_len (l:List F) {m:Nat} (h:∀ f∈l,f.2.size<=m):(Ks.Pl.encs l).length<=l.length * (3 + m):=by
  induction l with
  | nil=>simp [Ks.Pl.encs]
  | cons x l ih =>
    have h1:=ih fun f hf=>h f (by simp [hf])
    have h2:=h x (by simp)
    rw [encs_one,List.length_cons,Nat.succ_mul]
    omega
theorem encs_app (l m:List F):(Ks.Pl.encs (l ++ m)).length = (Ks.Pl.encs l).length + (Ks.Pl.encs m).length:=by simp [Ks.Pl.encs]
theorem runF_le {x:Ino} (h:Bd x):∀ f∈x.runs.map runF,f.2.size<=8196:=fun f hf=>by
  obtain ⟨r,hr,rfl⟩:=List.mem_map.1 hf
  obtain ⟨r1,r2⟩:=h.runs r hr
  have:=(le4 r1).1
  show (nb r.1 4 ++ r.2).size<=_
  rw [ByteArray.size_append]
  omega
theorem entF_le {x:Ino} (h:Bd x):∀ f∈x.ents.map entF,f.2.size<=45:=fun f hf=>by
  obtain ⟨y,hy,rfl⟩:=List.mem_map.1 hf
  obtain ⟨r1,r2,r3⟩:=h.ents y hy
  have:=(le6 (n:=y.2.1) ⟨by omega,r1.2⟩).1
  have:=hb_size r2
  show (nb y.2.1 6 ++ Ks.Ak.hbytes y.2.2.1 y.2.2.2 ++ y.1).size<=_
  rw [ByteArray.size_append,ByteArray.size_append]
  omega
theorem fI_le {x:Ino} (h:Bd x) (h1:x.runs.length<=30000) (h2:x.ents.length<=30000):(Ks.Pl.encs (fI x)).length<=300000000:=by
  have hh:=(head_parts h).1
  have a:=encs_len _ (runF_le h)
  have b:=encs_len _ (entF_le h)
  rw [List.length_map] at a b
  unfold fI
  rw [encs_one,encs_app]
  show 3 + (head x).size + _<=_
  omega
theorem txt_le (l:List F):(Ks.Pl.packOut l).size<=(Ks.Pl.encs l).length:=by
  unfold Ks.Pl.packOut
  split
  · rw [Ks.Pl.txt_size];exact Nat.le_refl _
  · rw [Ks.Pl.txt_size];exact Nat.zero_le _
theorem opF_le {L:List Ino} {O:List Os.Opn} {Z:List Es.Sea} {dn:Int} (h:Wh L O Z dn):∀ f∈O.map opF,f.2.size<=14:=fun f hf=>by
  obtain ⟨o,ho,rfl⟩:=List.mem_map.1 hf
  obtain ⟨r1,r2,r3⟩:=h.os o ho
  have:=(le1 r1).1
  have:=(le6 r2).1
  have:=hb_size r3
  show (nb o.1 1 ++ nb o.2.1 6 ++ Ks.Ak.hbytes o.2.2.1 o.2.2.2).size<=_
  rw [ByteArray.size_append,ByteArray.size_append]
  omega
theorem seF_le {L:List Ino} {O:List Os.Opn} {Z:List Es.Sea} {dn:Int} (h:Wh L O Z dn):∀ f∈Z.map seF,f.2.size<=8204:=fun f hf=>by
  obtain ⟨z,hz,rfl⟩:=List.mem_map.1 hf
  obtain ⟨r1,r2,r3⟩:=h.zs z hz
  have:=(le6 r1).1
  have:=(le6 r2).1
  show (nb z.1 6 ++ nb z.2.1 6 ++ z.2.2).size<=_
  rw [ByteArray.size_append,ByteArray.size_append]
  omega
theorem fS_le {L:List Ino} {O:List Os.Opn} {Z:List Es.Sea} {dn:Int} (h:Wh L O Z dn) (hs:Sm L):(Ks.Pl.encs (fS L O Z dn)).length<=1099511627776:=by
  obtain ⟨l1,l2,l3⟩:=h.lens
  have a:=encs_len (L.map inoF) (m:=300000000) fun f hf=>by
    obtain ⟨x,hx,rfl⟩:=List.mem_map.1 hf
    exact Nat.le_trans (txt_le _) (fI_le (h.bd x hx) (hs x hx).1 (hs x hx).2)
  have b:=encs_len _ (opF_le h)
  have c:=encs_len _ (seF_le h)
  have d:=(le6 h.dn).1
  rw [List.length_map] at a b c
  unfold fS
  rw [encs_one,encs_app,encs_app]
  show 3 + (nb dn 6).size + _<=_
  omega
/-- What a state weighs. -/
def wt (x:Ino):Nat:=x.ents.length + x.runs.length + Nf.tot x.runs
def wts (L:List Ino):Nat:=(L.map wt).sum
theorem wt_mem:∀ {L:List Ino} {x:Ino},x∈L->wt x<=wts L
  | y :: L, x, h => by
    have e:wts (y :: L) = wt y + wts L:=by simp [wts]
    rcases List.mem_cons.1 h with rfl | h
    · omega
    · have:=wt_mem h;omega
theorem sm_of {L:List Ino} (h:wts L<=12000):Sm L:=fun x hx=>by
  have:=wt_mem hx
  unfold wt at this
  omega
/-- Reading: as many runs and entries as there are fields. -/
theorem stI_one (f:F) (x:Ino):(stI x f).runs.length<=x.runs.length + 1/\(stI x f).ents.length<=x.ents.length + 1:=by
  unfold stI
  repeat' split
  all_goals exact ⟨by simp,by simp⟩
theorem qtI_one (f:F) (x:Ino):(qtI x f).runs.length<=x.runs.length + 1/\(qtI x f).ents.length<=x.ents.length + 1:=by
  unfold qtI
  repeat' split
  all_goals exact ⟨by simp,by simp⟩
theorem fold_len (st:Ino->F->Ino) (hst:∀ f x,(st x f).runs.length<=x.runs.length + 1/\(st x f).ents.length<=x.ents.length + 1) (l:List F):∀ x:Ino,(l.foldl st x).runs.length<=x.runs.length + l.length/\(l.foldl st x).ents.length<=x.ents.length + l.length:=by
  induction l with
  | nil=>intro x;exact ⟨Nat.le_refl _,Nat.le_refl _⟩
  | cons f l ih =>
    intro x
    have h:=ih (st x f)
    have h1:=hst f x
    rw [List.foldl_cons,List.length_cons]
    omega
theorem unp_len (s:ByteArray):(Ks.Pl.unpOut s.data.toList).length * 3<=s.size:=by
  have:=Ks.Rs.Ak.parse_len s.data.toList.length 1 s.data.toList
  have e:s.data.toList.length = s.size:=by simp
  unfold Ks.Pl.unpOut
  omega
theorem rdI_len (s:ByteArray):(rdI s).runs.length<=s.size/\(rdI s).ents.length<=s.size:=by
  have h:=fold_len stI stI_one (Ks.Pl.unpOut s.data.toList) zeroI
  have:=unp_len s
  have e:zeroI.runs.length = 0/\zeroI.ents.length = 0:=⟨rfl,rfl⟩
  unfold rdI
  omega
theorem qI_len (s:ByteArray):(qI s).runs.length<=s.size/\(qI s).ents.length<=s.size:=by
  have h:=fold_len qtI qtI_one (Ks.Pl.unpOut s.data.toList) zeroI
  have:=unp_len s
  have e:zeroI.runs.length = 0/\zeroI.ents.length = 0:=⟨rfl,rfl⟩
  unfold qI
  omega
/-- An inode of a state that is read is one of its fields, read. -/
theorem rdS_mem (s : ByteArray) : ∀ x ∈ (rdS s).L, ∃ f ∈ Ks.Pl.unpOut s.data.toList, x = rdI f.2 := by
  have go : ∀ (l : List F) (x : Sta), ∀ y ∈ (l.foldl stS x).L, y ∈ x.L ∨ ∃ f ∈ l, y = rdI f.2 := by
    intro l
    induction l with
    | nil=>intro x y hy;exact .inl hy
    | cons f l ih =>
      intro x y hy
      rw [List.foldl_cons] at hy
      rcases ih _ y hy with h | ⟨g,hg,e⟩
      · have : (stS x f).L = x.L ∨ (stS x f).L = x.L ++ [rdI f.2] := by
          unfold stS
          repeat' split
          all_goals simp
        rcases this with e | e
        · rw [e] at h;exact .inl h
        · rw [e] at h
          rcases List.mem_append.1 h with h | h
          · exact .inl h
          · rw [List.mem_singleton] at h;exact .inr ⟨f,by simp,h⟩
      · exact .inr ⟨g,by simp [hg],e⟩
  intro x hx
  rcases go _ _ x hx with h | h
  · exact absurd h (by simp [st0])
  · exact h
theorem qS_mem (s : ByteArray) : ∀ x ∈ (qS s).L, ∃ f ∈ Ks.Pl.unpOut s.data.toList, x = qI f.2 := by
  have go : ∀ (l : List F) (x : Sta), ∀ y ∈ (l.foldl qtS x).L, y ∈ x.L ∨ ∃ f ∈ l, y = qI f.2 := by
    intro l
    induction l with
    | nil=>intro x y hy;exact .inl hy
    | cons f l ih =>
      intro x y hy
      rw [List.foldl_cons] at hy
      rcases ih _ y hy with h | ⟨g,hg,e⟩
      · have : (qtS x f).L = x.L ∨ (qtS x f).L = x.L ++ [qI f.2] := by
          unfold qtS
          repeat' split
          all_goals simp
        rcases this with e | e
        · rw [e] at h;exact .inl h
        · rw [e] at h
          rcases List.mem_append.1 h with h | h
          · exact .inl h
          · rw [List.mem_singleton] at h;exact .inr ⟨f,by simp,h⟩
      · exact .inr ⟨g,by simp [hg],e⟩
  intro x hx
  rcases go _ _ x hx with h | h
  · exact absurd h (by simp [st0])
  · exact h
theorem fld_size (s:ByteArray):∀ f∈Ks.Pl.unpOut s.data.toList,f.2.size<=65535:=fun f hf=>Ks.Rs.Ak.parse_small _ _ _ f hf
end Sh
namespace Sh
theorem val_le (s:ByteArray) (h:s.size<=7):-9223372036854775808<=Ks.Pl.numVal s/\Ks.Pl.numVal s<=9223372036854775807:=by
  unfold Ks.Pl.numVal
  split
  · decide
  · have h1 := Ks.Pl.numOf_lt s.data.toList
    have e:s.data.toList.length = s.size:=by simp
    rw [e] at h1
    have h2:(256:Nat) ^ s.size<=256 ^ 7:=Nat.pow_le_pow_right (by decide) h
    have h3:(256:Nat) ^ 7 = 72057594037927936:=by decide
    generalize Ks.Pl.numOf s.data.toList = m at *
    omega
theorem nm_le (n:Nat) (s:ByteArray) (h:n<=7):-9223372036854775808<=nm n s/\nm n s<=9223372036854775807:=val_le _ (by unfold tk;rw [ByteArray.size_extract];omega)
theorem pt_le (s:ByteArray) (a z:Nat) (h:z<=7):-9223372036854775808<=pt s a z/\pt s a z<=9223372036854775807:=by
  unfold pt
  split
  · decide
  · exact val_le _ (by rw [ByteArray.size_extract];omega)
theorem rs_size (s:ByteArray) (a:Nat):(rs s a).size<=s.size:=by
  unfold rs
  split
  · exact Nat.zero_le _
  · rw [ByteArray.size_extract];omega
/-- Each run and each entry is small. -/
structure Oks (x:Ino):Prop where
  runs:∀ r∈x.runs,(-9223372036854775808<=r.1/\r.1<=9223372036854775807)/\r.2.size<=65535
  ents:∀ e∈x.ents,e.1.size<=65535
theorem st_ok (x : Ino) (f : F) (h : Oks x) (hf : f.2.size ≤ 65535) : Oks (stI x f) := by
  unfold stI
  split
  · exact ⟨h.runs,h.ents⟩
  · split
    · refine ⟨fun r hr => ?_, h.ents⟩
      rcases List.mem_append.1 hr with hr | hr
      · exact h.runs r hr
      · rw [List.mem_singleton] at hr
        subst hr
        have h1:=nm_le 4 f.2 (by decide)
        have h2:=Nat.le_trans (dr_size 4 f.2) hf
        have e:rdR f.2 = (nm 4 f.2,dr 4 f.2):=rfl
        rw [e]
        exact ⟨h1,h2⟩
    · split
      · refine ⟨h.runs, fun e he => ?_⟩
        rcases List.mem_append.1 he with he | he
        · exact h.ents e he
        · rw [List.mem_singleton] at he
          subst he
          show (dr 6 (dr 1 (dr 6 f.2))).size<=65535
          have h1:=dr_size 6 (dr 1 (dr 6 f.2))
          have h2:=dr_size 1 (dr 6 f.2)
          have h3:=dr_size 6 f.2
          omega
      · exact h
theorem qt_ok (x : Ino) (f : F) (h : Oks x) (hf : f.2.size ≤ 65535) : Oks (qtI x f) := by
  unfold qtI
  split
  · split
    · exact ⟨h.runs,h.ents⟩
    · exact h
  · split
    · refine ⟨fun r hr => ?_, h.ents⟩
      rcases List.mem_append.1 hr with hr | hr
      · exact h.runs r hr
      · rw [List.mem_singleton] at hr
        subst hr
        have h1:=pt_le f.2 0 4 (by decide)
        have h2:=Nat.le_trans (rs_size f.2 4) hf
        have e:qR f.2 = (pt f.2 0 4,rs f.2 4):=rfl
        rw [e]
        exact ⟨h1,h2⟩
    · split
      · refine ⟨h.runs, fun e he => ?_⟩
        rcases List.mem_append.1 he with he | he
        · exact h.ents e he
        · rw [List.mem_singleton] at he
          subst he
          exact Nat.le_trans (rs_size _ _) hf
      · exact h
theorem fold_ok (st:Ino->F->Ino) (hst:∀ x f,Oks x->f.2.size<=65535->Oks (st x f)):∀ (l:List F) (x:Ino),(∀ f∈l,f.2.size<=65535)->Oks x->Oks (l.foldl st x)
  | [],x,_,h=>h
  | f :: l,x,hl,h=>fold_ok st hst l (st x f) (fun g hg=>hl g (by simp [hg])) (hst x f h (hl f (by simp)))
theorem zero_ok:Oks zeroI:=⟨fun r hr=>(by cases hr),fun r hr=>(by cases hr)⟩
theorem rdI_ok (s:ByteArray):Oks (rdI s):=fold_ok stI st_ok _ _ (fld_size s) zero_ok
theorem qI_ok (s:ByteArray):Oks (qI s):=fold_ok qtI qt_ok _ _ (fld_size s) zero_ok
theorem okI_of {x:Ino} (h:Oks x) (h1:x.runs.length<=65535) (h2:x.ents.length<=65535):okI x:=⟨fun r hr=>⟨(h.runs r hr).1,Nat.le_trans (h.runs r hr).2 (by decide)⟩,by omega,by omega⟩
theorem rdS_ok (b:ByteArray):∀ x∈(rdS b).L,okI x/\∀ e∈x.ents,e.1.size<=maxLen:=fun x hx=>by
  obtain ⟨f,hf,rfl⟩:=rdS_mem b x hx
  have h1:=rdI_len f.2
  have h2:=fld_size b f hf
  exact ⟨okI_of (rdI_ok _) (by omega) (by omega),fun e he=>Nat.le_trans ((rdI_ok _).ents e he) (by decide)⟩
theorem qS_ok (b:ByteArray):∀ x∈(qS b).L,okI x/\∀ e∈x.ents,e.1.size<=maxLen:=fun x hx=>by
  obtain ⟨f,hf,rfl⟩:=qS_mem b x hx
  have h1:=qI_len f.2
  have h2:=fld_size b f hf
  exact ⟨okI_of (qI_ok _) (by omega) (by omega),fun e he=>Nat.le_trans ((qI_ok _).ents e he) (by decide)⟩
/-- A field is shorter than what it is a field of. -/
theorem parse_tot : ∀ (f : Nat) (last : Int) (l : List UInt8), ∀ x ∈ (Ks.Pl.parse f last l).1, x.2.size ≤ l.length
  | 0,_,_,x,hx=>by simp [Ks.Pl.parse] at hx
  | f + 1, last, l, x, hx => by
    unfold Ks.Pl.parse at hx
    split at hx
    · simp at hx
    · split at hx
      · unfold Ks.Pl.join at hx
        split at hx
        · simp only [List.cons_append, List.nil_append, List.mem_cons] at hx
          rcases hx with rfl | hx
          · simp only [Ks.Pl.fieldOf, Ks.Pl.txt_size, List.length_take, List.length_drop]
            omega
          · have := parse_tot f _ _ x hx
            rw [List.length_drop] at this
            omega
        · simp at hx
      · simp at hx
theorem fld_tot (s:ByteArray):∀ f∈Ks.Pl.unpOut s.data.toList,f.2.size<=s.size:=fun f hf=>by
  have:=parse_tot _ _ _ f hf
  simpa using this
theorem rdS_sm {b:ByteArray} (h:b.size<=30000):Sm (rdS b).L:=fun x hx=>by
  obtain ⟨f,hf,rfl⟩:=rdS_mem b x hx
  have h1:=rdI_len f.2
  have h2:=fld_tot b f hf
  omega
theorem qS_sm {b:ByteArray} (h:b.size<=30000):Sm (qS b).L:=fun x hx=>by
  obtain ⟨f,hf,rfl⟩:=qS_mem b x hx
  have h1:=qI_len f.2
  have h2:=fld_tot b f hf
  omega
theorem qtS_lens (l:List F):∀ x:Sta,(l.foldl qtS x).L.length<=x.L.length + l.length/\(l.foldl qtS x).O.length<=x.O.length + l.length/\(l.foldl qtS x).Z.length<=x.Z.length + l.length:=by
  induction l with
  | nil=>intro x;exact ⟨Nat.le_refl _,Nat.le_refl _,Nat.le_refl _⟩
  | cons f l ih =>
    intro x
    have h:=ih (qtS x f)
    have h1:(qtS x f).L.length<=x.L.length + 1/\(qtS x f).O.length<=x.O.length + 1/\(qtS x f).Z.length<=x.Z.length + 1:=by
      unfold qtS
      repeat' split
      all_goals exact ⟨by simp,by simp,by simp⟩
    rw [List.foldl_cons,List.length_cons]
    omega
/-- What is a state's bytes unpacks without an error. -/
theorem isS_unp {x:Sta} {b:ByteArray} (h:isS x b = true):Ks.Pl.unpErr b.data.toList = 0:=by
  unfold isS at h
  simp only [Bool.and_eq_true,decide_eq_true_eq] at h
  obtain ⟨h1,h2⟩:=h
  have hw:=(pk_back h1).1
  unfold pkE at h1
  rw [if_pos hw] at h1
  unfold pkO at h2
  rw [if_pos hw] at h2
  rw [← h2]
  exact (unp_of h1).2
/-- The document's answer is the code's. -/
theorem unp_bad {b:ByteArray} (h:Ks.Pl.unpErr b.data.toList≠0):unpS b = st0/\unpE b = 4:=by
  have:isS (rdS b) b = false:=by
    cases e:isS (rdS b) b with
    | false=>rfl
    | true=>exact absurd (isS_unp e) h
  unfold unpS unpE
  rw [this]
  exact ⟨rfl,rfl⟩
theorem unp_no {x:Sta} {b:ByteArray} (hx:x = rdS b∨x = qS b) (h:isS x b = false):unpS b = st0/\unpE b = 4:=by
  have:isS (rdS b) b = false:=by
    rcases hx with rfl | rfl
    · exact h
    · rw [← (isS_q b).1];exact h
  unfold unpS unpE
  rw [this]
  exact ⟨rfl,rfl⟩
theorem unp_yes {x:Sta} {b:ByteArray} (hx:x = rdS b∨x = qS b) (h:isS x b = true):unpS b = x/\unpE b = 0:=by
  have h1:isS (rdS b) b = true:=by
    rcases hx with rfl | rfl
    · exact h
    · rw [← (isS_q b).1];exact h
  have h2:rdS b = x:=by
    rcases hx with rfl | rfl
    · rfl
    · exact ((isS_q b).2 h1).symm
  unfold unpS unpE
  rw [h1]
  exact ⟨h2,rfl⟩
theorem isS_iff (x:Sta) (b:ByteArray):isS x b = true ↔ pkE x.L x.O x.Z x.dn = 0/\pkO x.L x.O x.Z x.dn = b:=by
  unfold isS
  simp only [Bool.and_eq_true,decide_eq_true_eq]
end Sh
end Go.Proofs.YtggoccfddnpelaaGreat
namespace Go.Proofs.YtggoccfddnpelaaGreat.Es
open Go.ChangeShapes Go.WideShapes Go.ChangeAt Go.RowKit Go.Deep
set_option maxRecDepth 100000
theorem laidOut:laidOutB Tryz.prog = true:=by kernel_rfl
theorem own:ownKnob Tryz.prog.godebug = none:=by kernel_rfl
theorem infoS:(Tryz.prog.info? 60).map (fun i=>(i.zero,i.size,i.bytes)) = some (some (.agg #[.int .i64 0,.int .i64 0,.string ⟨#[]⟩]),3,32):=by kernel_rfl
theorem info_parts {P:Program} {e:TypeId} {z:Value} {n b:Nat} (h:(P.info? e).map (fun i=>(i.zero,i.size,i.bytes)) = some (some z,n,b)):∃ i,P.info? e = some i/\i.zero = some z/\i.size = n/\i.bytes = b:=by
  cases hi:P.info? e with
  | none=>rw [hi] at h;cases h
  | some i =>
    rw [hi] at h
    simp at h
    exact ⟨i,rfl,h.1,h.2.1,h.2.2⟩
theorem within_any (lo x hi:Int) (w:World):Calls Tryz.prog 67 #[.int .i64 lo,.int .i64 x,.int .i64 hi] w fun e w'=>e = .returned (.bool (decide (lo<=x/\x<=hi)))/\w' = w:=by
  by_cases h1:lo<=x
  · by_cases h2 : x ≤ hi
    · rw [decide_eq_true (show lo ≤ x ∧ x ≤ hi from ⟨h1, h2⟩)]
      go_enter Tryz.func67,Tryz.ntmps67
      go_wp2
      go_ret
      exact ⟨rfl,rfl⟩
    · rw [decide_eq_false (show ¬ (lo ≤ x ∧ x ≤ hi) from fun h => h2 h.2)]
      go_enter Tryz.func67,Tryz.ntmps67
      go_wp2
      go_ret
      exact ⟨rfl,rfl⟩
  · rw [decide_eq_false (show ¬ (lo ≤ x ∧ x ≤ hi) from fun h => h1 h.1)]
    go_enter Tryz.func67,Tryz.ntmps67
    go_wp2
    go_ret
    exact ⟨rfl,rfl⟩
theorem within_yes (lo x hi:Int) (w:World) (h:lo<=x/\x<=hi):Calls Tryz.prog 67 #[.int .i64 lo,.int .i64 x,.int .i64 hi] w fun e w'=>e = .returned (.bool true)/\w' = w:=by
  have:=within_any lo x hi w
  rwa [decide_eq_true h] at this
theorem within_no (lo x hi:Int) (w:World) (h:¬ (lo<=x/\x<=hi)):Calls Tryz.prog 67 #[.int .i64 lo,.int .i64 x,.int .i64 hi] w fun e w'=>e = .returned (.bool false)/\w' = w:=by
  have:=within_any lo x hi w
  rwa [decide_eq_false h] at this
theorem rreq_any (c:Int) (w:World):Calls Tryz.prog 68 #[.int .i64 c] w fun e w'=>e = .returned (.bool (decide (Se.Rq c)))/\w' = w:=by
  obtain ⟨b,hb⟩:∃ b,decide (Se.Rq c) = b:=⟨_,rfl⟩
  have HD:Hid (decide (1<=c/\c<=1099511627776) = b):=(show decide (1<=c/\c<=1099511627776) = decide (Se.Rq c) from decide_eq_decide.2 Iff.rfl).trans hb
  rw [hb]
  clear hb
  go_enter Tryz.func68,Tryz.ntmps68
  go_wp2_with fail
  refine (within_any _ _ _ _).mono ?_
  rintro e w' ⟨rfl,rfl⟩
  rw [HD.out]
  go_wp2
  go_ret
  exact ⟨rfl,rfl⟩
theorem rreq_yes (c:Int) (w:World) (h:Se.Rq c):Calls Tryz.prog 68 #[.int .i64 c] w fun e w'=>e = .returned (.bool true)/\w' = w:=by
  have:=rreq_any c w
  rwa [decide_eq_true h] at this
theorem rreq_no (c:Int) (w:World) (h:¬ Se.Rq c):Calls Tryz.prog 68 #[.int .i64 c] w fun e w'=>e = .returned (.bool false)/\w' = w:=by
  have:=rreq_any c w
  rwa [decide_eq_false h] at this
abbrev BS (x:Sea):Obj:=.cells #[.int .i64 x.1,.int .i64 x.2.1,.string x.2.2] 60
abbrev VS (x:Sea):Value:=.agg #[.int .i64 x.1,.int .i64 x.2.1,.string x.2.2]
theorem cell_lt {w:World} {b j:Nat} {v:Value} (h:w.cell? ⟨b,j,none⟩ = some v):b < w.heap.size:=by
  unfold World.cell? at h
  by_cases hb:b < w.heap.size
  · exact hb
  · rw [Array.getElem?_eq_none (by simpa using hb)] at h
    simp at h
theorem cell_next {w w':World} {b j:Nat} {v:Value} (h:w.cell? ⟨b,j,none⟩ = some v) (hb:Below w.heap.size w w') (hl:b < w.heap.size):w'.cell? ⟨b,j,none⟩ = some v:=(hb.cell (p:=⟨b,j,none⟩) hl).trans h
theorem cell_step {w w':World} {b j:Nat} {v:Value} (h:w.cell? ⟨b,j,none⟩ = some v) (hb:Below w.heap.size w w'):w'.cell? ⟨b,j,none⟩ = some v:=cell_next h hb (cell_lt h)
theorem undrew {w w':World} (h:Below w.drew.heap.size w.drew w'):Below w.heap.size w w':=⟨h.os,h.tape,h.output,h.size,h.block⟩
theorem sea_cells {w wr:World} {b off k:Nat} {x:Sea} (h:Below w.heap.size w wr) (hB:b < w.heap.size) (hc:∀ j u,(ES.cells x)[j]? = some u->w.cell? ⟨b,off + (k * ES.sz + j),none⟩ = some u) :
    wr.cell? ⟨b,off + k * 3,none⟩ = some (.int .i64 x.1)/\wr.cell? ⟨b,off + k * 3 + 1,none⟩ = some (.int .i64 x.2.1)/\wr.cell? ⟨b,off + k * 3 + 2,none⟩ = some (.string x.2.2):=by
  have a:=fun j u hj=>(h.cell (p:=⟨b,off + (k * ES.sz + j),none⟩) hB).trans (hc j u hj)
  exact ⟨a 0 _ rfl,a 1 _ rfl,a 2 _ rfl⟩
/-- What a slice that stands for a list gives a loop over it. -/
abbrev Over (w:World) (ao:Option Addr) (l:List Sea):Prop:=∀ i x,l[i]? = some x->∃ b off,ao = some ⟨b,off,none⟩/\True/\b < w.heap.size/\∀ k u,(ES.cells x)[k]? = some u->w.cell? ⟨b,off + (i * ES.sz + k),none⟩ = some u
set_option maxHeartbeats 2000000 in
theorem check_any (v : Value) (l : List Sea) (w : World) (hv : AtW ES w v l) :
    Calls Tryz.prog 42 #[v] w fun e w'=>e = .returned (.int .i64 (if Se.ok l = true then 0 else 4))/\Below w.heap.size w w':=by
  obtain ⟨ao,cap,rfl,hm,hx⟩:=hv.open
  clear hv
  unfold maxLen at hm
  obtain ⟨n,hn⟩:∃ n,l.length = n:=⟨_,rfl⟩
  rw [hn] at hm ⊢
  have HN:Hid (l.length = n):=hn
  have HX:Hid (Over w ao l):=hx
  obtain ⟨r,hr⟩:∃ r,(if Se.ok l = true then (0:Int) else 4) = r:=⟨_,rfl⟩
  rw [hr]
  have HR:Hid ((if Se.ok l = true then (0:Int) else 4) = r):=hr
  clear hn hx hr
  by_cases h6:n<=6
  · have h6' : (n : Int) ≤ 6 := by omega
    have HOK:Hid (Se.ok l = Se.right 0 l):=by show Se.ok l = Se.right 0 l;unfold Se.ok;rw [decide_eq_true (by rw [HN.out];exact h6),Bool.true_and]
    go_enter Tryz.func42,Tryz.ntmps42
    go_wp2
    go_loopw [3,11] (fun t i wr=>∃ (k:Nat) (t':Int),k<=n/\i = .int .i64 k/\t = .int .i64 t'/\0<=t'/\Hid (Se.right 0 l = Se.right t' (l.drop k))/\Hid (Below w.heap.size w wr)) (fun _ i _=>n - (intOf i).toNat)
    case atStart=>exact ⟨0,0,Nat.zero_le _,rfl,rfl,Int.le_refl _,rfl,Below.refl _ _⟩
    case round =>
      obtain ⟨k,t,hk,rfl,rfl,ht0,HP,HB⟩:=hrel
      have hsz:=HB.out.size
      by_cases hlt:k < n
      · obtain ⟨x, hxk⟩ : ∃ x, l[k]? = some x := ⟨_, List.getElem?_eq_getElem (by rw [HN.out]; exact hlt)⟩
        have HXK:Hid (l[k]? = some x):=hxk
        obtain ⟨b,off,rfl,-,hB,hc⟩:=HX.out k x hxk
        obtain ⟨c0,c1,c2⟩:=sea_cells HB.out hB hc
        clear hc hxk
        have hlt':(k:Int) < (n:Int):=by omega
        have HNO:Hid (¬ Se.good t x->r = 4):=fun hg=>by
          have:=HR.out
          rw [HOK.out,HP.out,Se.right_no HXK.out hg] at this
          exact this.symm
        have HYES:Hid (Se.good t x->Se.right 0 l = Se.right (x.1 + 1) (l.drop (k + 1))):=fun hg=>HP.out.trans (Se.right_yes HXK.out hg)
        by_cases g1:t<=x.1/\x.1<=1099511627776
        · have G1 : Hid (t ≤ x.1 ∧ x.1 ≤ 1099511627776) := g1
          by_cases g2:Se.Rq x.2.1
          · have G2 : Hid (Se.Rq x.2.1) := g2
            by_cases g3:x.2.2.size<=8192
            · have hle := g1.2
              have HY:Hid (Se.right 0 l = Se.right (x.1 + 1) (l.drop (k + 1))):=HYES.out ⟨g1,g2,g3⟩
              have hge:0<=x.1:=by omega
              have g3':¬ (8192:Int) < (x.2.2.size:Int):=by omega
              clear g1 g2
              go_wp2_with fail
              refine (within_yes _ _ _ _ G1.out).mono ?_
              rintro e w' ⟨rfl,rfl⟩
              go_wp2_with fail
              refine (rreq_yes _ _ G2.out).mono ?_
              rintro e w' ⟨rfl,rfl⟩
              go_wp2
              go_roundw
              case rel=>exact ⟨k + 1,x.1 + 1,by omega,by go_num,by go_num,by omega,HY,HB.out.alloc hsz _⟩
              case measure=>simp [intOf];omega
            · have H : Hid (r = 4) := HNO.out fun h => g3 h.2.2
              have g3':(8192:Int) < (x.2.2.size:Int):=by omega
              clear g1 g2
              go_wp2_with fail
              refine (within_yes _ _ _ _ G1.out).mono ?_
              rintro e w' ⟨rfl,rfl⟩
              go_wp2_with fail
              refine (rreq_yes _ _ G2.out).mono ?_
              rintro e w' ⟨rfl,rfl⟩
              go_wp2
              go_ret
              rw [H.out]
              exact ⟨rfl,HB.out.alloc hsz _⟩
          · have H : Hid (r = 4) := HNO.out fun h => g2 h.2.1
            have G2:Hid (¬ Se.Rq x.2.1):=g2
            clear g1 g2
            go_wp2_with fail
            refine (within_yes _ _ _ _ G1.out).mono ?_
            rintro e w' ⟨rfl,rfl⟩
            go_wp2_with fail
            refine (rreq_no _ _ G2.out).mono ?_
            rintro e w' ⟨rfl,rfl⟩
            go_wp2
            go_ret
            rw [H.out]
            exact ⟨rfl,HB.out.alloc hsz _⟩
        · have H : Hid (r = 4) := HNO.out fun h => g1 h.1
          have G1:Hid (¬ (t<=x.1/\x.1<=1099511627776)):=g1
          clear g1
          go_wp2_with fail
          refine (within_no _ _ _ _ G1.out).mono ?_
          rintro e w' ⟨rfl,rfl⟩
          go_wp2
          go_ret
          rw [H.out]
          exact ⟨rfl,HB.out.alloc hsz _⟩
      · obtain rfl : k = n := by omega
        have H:Hid (r = 0):=by
          have:=HR.out
          rw [HOK.out,HP.out,Se.right_end HN.out.symm,if_pos rfl] at this
          exact this.symm
        go_wp2
        go_ret
        rw [H.out]
        exact ⟨rfl,HB.out⟩
  · have h6' : 6 < (n : Int) := by omega
    have H:Hid (r = 4):=by
      have:=HR.out
      unfold Se.ok at this
      rw [decide_eq_false (by rw [HN.out];exact h6),Bool.false_and] at this
      exact this.symm
    go_enter Tryz.func42,Tryz.ntmps42
    go_wp2
    go_ret
    rw [H.out]
    exact ⟨rfl,Below.refl _ _⟩
end Go.Proofs.YtggoccfddnpelaaGreat.Es
