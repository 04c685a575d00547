/- ZInv, ZSz, EBase, ZPb, as one. -/
import Derived.Test.YtggoccfddnpelaaGreatDoorR26
namespace Go.Proofs.YtggoccfddnpelaaGreatDoor
open It Go.RowKit
set_option maxRecDepth 100000
namespace Sh
theorem fold_map {α β γ:Type} (st:β->γ->β) (f:α->γ) (up:β->List α->β) (y:β) (l:List α) (h0:up y [] = y) (hs:∀ m x,x∈l->st (up y m) (f x) = up y (m ++ [x])):(l.map f).foldl st y = up y l:=by
  have go:∀ (k m:List α),m ++ k = l->(k.map f).foldl st (up y m) = up y l:=by
    intro k
    induction k with
    | nil=>intro m e;rw [List.append_nil] at e;subst e;rfl
    | cons x k ih =>
      intro m e
      rw [List.map_cons,List.foldl_cons,hs m x (by rw [← e];simp)]
      exact ih (m ++ [x]) (by rw [← e];simp)
  have:=go l [] rfl
  rwa [h0] at this
theorem pe_seg {t last:Int} {m:List F} (ht:1<=t/\t<=255):∀ (l:List F),last<=t->(∀ f∈l,f.1 = t/\f.2.size<=65535)->Ks.Pl.packErr t m = 0->Ks.Pl.packErr last m = 0->Ks.Pl.packErr last (l ++ m) = 0:=by
  intro l
  induction l generalizing last with
  | nil=>intro _ _ _ h;exact h
  | cons x l ih =>
    intro hl hx hm hm'
    obtain ⟨h1,h2⟩:=hx x (by simp)
    have hb:Ks.Pl.badAt last x = 0:=by
      unfold Ks.Pl.badAt
      rw [if_neg (by omega),if_neg (by omega),if_neg (by omega)]
    show (if Ks.Pl.badAt last x = 0 then Ks.Pl.packErr x.1 (l ++ m) else _) = 0
    rw [if_pos hb,h1]
    exact ih (Int.le_refl _) (fun f hf=>hx f (by simp [hf])) hm hm
/-- What a right inode's parts are. -/
structure Bd (x:Ino):Prop where
  gen:1<=x.gen/\x.gen<=1099511627776
  at_:Ks.Rs.At.right x.kind x.links x.size x.stamp = true
  next:0<=x.next/\x.next<=1099511627776
  runs:∀ r∈x.runs,(0<=r.1/\r.1<=1048576)/\r.2.size<=8192
  ents:∀ y∈x.ents,(1<=y.2.1/\y.2.1<=1099511627776)/\Ks.Ak.hokP y.2.2.1 y.2.2.2/\y.1.size<=32
theorem at_eq {k l s t:Int} (h:At.right k l s t = true):Ks.Rs.At.right k l s t = true:=Ks.Rs.At.right_iff.2 (At.right_iff.1 h)
theorem run_size:∀ {l:List (Int × ByteArray)} {r:Int × ByteArray},r∈l->r.2.size<=Nf.tot l
  | x :: l, r, h => by
    have e:Nf.tot (x :: l) = x.2.size + Nf.tot l:=by simp [Nf.tot,Bs.Bl.total]
    rcases List.mem_cons.1 h with rfl | h
    · omega
    · have:=run_size h;omega
theorem tot_By:∀ {L:List Ino} {x:Ino},x∈L->Nf.tot x.runs<=Nf.By L
  | y :: L, x, h => by
    rw [Nf.By_cons]
    rcases List.mem_cons.1 h with rfl | h
    · omega
    · have:=tot_By h;omega
theorem runs_at:∀ {l:List (Int × ByteArray)} {a:Int},Bl.right a l->-1<=a->∀ r∈l,0<=r.1/\r.1<=1048576
  | x :: l, a, h, ha, r, hr => by
    obtain ⟨⟨h1,h2,h3⟩,h4⟩:=h
    have e:Bl.MAX = 1048576:=rfl
    rcases List.mem_cons.1 hr with rfl | hr
    · omega
    · exact runs_at h4 (by unfold Bl.rend;omega) r hr
theorem bd_of {L : List Ino} (hs : Sp.isSp L = true) (hb : allBytes L ≤ 8192) {x : Ino} (hx : x ∈ L) : Bd x := by
  obtain ⟨h1,h2,-,-⟩:=Sp.isSp_iff.1 hs
  have ho:=(It.right_iff.1 h1).2.2 x hx
  have hby:=Nf.all_by h1
  have hg:=one_bd ho
  have hh:=ho
  unfold one at hh
  simp only [Bool.and_eq_true] at hh
  obtain ⟨-,ha,h3⟩:=hh
  have hrr:=runs_at (Nf.runs_right ho) (Int.le_refl _)
  refine ⟨hg,at_eq ha,?_,fun r hr=>⟨hrr r hr,?_⟩,?_⟩
  · by_cases hk : x.kind = 2
    · exact (h2 x hx hk).1.1
    · rw [if_neg hk] at h3
      split at h3 <;> simp only [Bool.and_eq_true,decide_eq_true_eq] at h3 <;> omega
  · have a := run_size hr
    have b:=tot_By hx
    omega
  · intro y hy
    by_cases hk:x.kind = 2
    · obtain ⟨⟨h0, hp, -⟩, -⟩ := h2 x hx hk
      obtain ⟨i,hi⟩:=List.mem_iff_getElem?.1 hy
      have hlt:=(List.getElem?_eq_some_iff.1 hi).1
      obtain ⟨g1,g2,g3⟩:=hp i hlt y hi
      have g5:0<=Fo.lastC x.ents i:=(Fo.lastC_bd (fun j hj=>hp j (by omega)) (Nat.le_of_lt hlt) h0.1).1
      obtain ⟨⟨a1,a2⟩,a3,a4⟩:=g3
      exact ⟨⟨by omega,by omega⟩,⟨⟨a1,by omega⟩,by omega,a4⟩,g1.2.1⟩
    · rw [if_neg hk] at h3
      have:x.ents = []:=by
        split at h3 <;> simp only [Bool.and_eq_true,decide_eq_true_eq] at h3 <;> exact List.isEmpty_iff.1 (by simp [h3])
      rw [this] at hy
      cases hy
theorem le6 {n:Int} (h:0<=n/\n<=1099511627776):(nb n 6).size = 6/\Ks.Pl.numVal (nb n 6) = n:=nb_size (z:=6) h.1 (by decide) (by decide) (by have:((256:Int) ^ 6) = 281474976710656:=(by decide);omega)
theorem le1 {n:Int} (h:0<=n/\n<=255):(nb n 1).size = 1/\Ks.Pl.numVal (nb n 1) = n:=nb_size (z:=1) h.1 (by decide) (by decide) (by have:((256:Int) ^ 1) = 256:=(by decide);omega)
theorem le4 {n:Int} (h:0<=n/\n<=1048576):(nb n 4).size = 4/\Ks.Pl.numVal (nb n 4) = n:=nb_size (z:=4) h.1 (by decide) (by decide) (by have:((256:Int) ^ 4) = 4294967296:=(by decide);omega)
theorem hb_size {no gen:Int} (h:Ks.Ak.hokP no gen):(Ks.Ak.hbytes no gen).size = 7:=Ks.Ak.hbytes_size h
theorem rdH_back {no gen:Int} (h:Ks.Ak.hokP no gen) (b:ByteArray):rdH (Ks.Ak.hbytes no gen ++ b) = (no,gen)/\dr 6 (dr 1 (Ks.Ak.hbytes no gen ++ b)) = b:=by
  obtain ⟨h1,h2⟩:=h
  obtain ⟨s1,v1⟩:=le1 h1
  obtain ⟨s6,v6⟩:=le6 h2
  have e:Ks.Ak.hbytes no gen ++ b = nb no 1 ++ (nb gen 6 ++ b):=by unfold Ks.Ak.hbytes;rw [Ks.Rs.Pl.ba_assoc]
  obtain ⟨c1,c2⟩:=cut0 (nb no 1) (nb gen 6 ++ b) s1
  obtain ⟨d1,d2⟩:=cut0 (nb gen 6) b s6
  unfold rdH nm
  rw [e,c1,c2,d1,d2,v1,v6]
  exact ⟨rfl,rfl⟩
theorem rdH_back' {no gen:Int} (h:Ks.Ak.hokP no gen):rdH (Ks.Ak.hbytes no gen) = (no,gen):=by
  have:=(rdH_back h ⟨#[]⟩).1
  rwa [Ks.Rs.Pl.ba_nil'] at this
theorem rdO_back {o:Os.Opn} (h1:0<=o.1/\o.1<=255) (h2:0<=o.2.1/\o.2.1<=1099511627776) (h3:Ks.Ak.hokP o.2.2.1 o.2.2.2):rdO (opF o).2 = o/\qO (opF o).2 = o:=by
  obtain ⟨s1,v1⟩:=le1 h1
  obtain ⟨s6,v6⟩:=le6 h2
  obtain ⟨g1,v2⟩:=le1 h3.1
  obtain ⟨g6,v7⟩:=le6 h3.2
  have e:(opF o).2 = nb o.1 1 ++ (nb o.2.1 6 ++ Ks.Ak.hbytes o.2.2.1 o.2.2.2):=by unfold opF;rw [Ks.Rs.Pl.ba_assoc]
  obtain ⟨c1,c2⟩:=cut0 (nb o.1 1) (nb o.2.1 6 ++ Ks.Ak.hbytes o.2.2.1 o.2.2.2) s1
  obtain ⟨d1,d2⟩:=cut0 (nb o.2.1 6) (Ks.Ak.hbytes o.2.2.1 o.2.2.2) s6
  refine ⟨?_,?_⟩
  · unfold rdO nm
    rw [e,c1,c2,d1,d2,v1,v6,rdH_back' h3]
  · have p0 := pt_at ⟨#[]⟩ (nb o.1 1) (nb o.2.1 6 ++ Ks.Ak.hbytes o.2.2.1 o.2.2.2) (i := 0) rfl s1
    rw [Ks.Rs.Pl.ba_nil,← e,v1] at p0
    have p1:=pt_at (nb o.1 1) (nb o.2.1 6) (Ks.Ak.hbytes o.2.2.1 o.2.2.2) s1 s6
    rw [Ks.Rs.Pl.ba_assoc,← e,v6] at p1
    have e2:(opF o).2 = (nb o.1 1 ++ nb o.2.1 6) ++ nb o.2.2.1 1 ++ nb o.2.2.2 6:=by unfold opF Ks.Ak.hbytes;rw [Ks.Rs.Pl.ba_assoc (nb o.1 1 ++ nb o.2.1 6)]
    have p2:=pt_at (nb o.1 1 ++ nb o.2.1 6) (nb o.2.2.1 1) (nb o.2.2.2 6) (i:=7) (by rw [ByteArray.size_append];omega) g1
    rw [← e2,v2] at p2
    have p3:=pt_at (nb o.1 1 ++ nb o.2.1 6 ++ nb o.2.2.1 1) (nb o.2.2.2 6) ⟨#[]⟩ (i:=8) (by rw [ByteArray.size_append,ByteArray.size_append];omega) g6
    rw [Ks.Rs.Pl.ba_nil',← e2,v7] at p3
    unfold qO
    rw [p0,p1,p2,p3]
theorem rdZ_back {z:Es.Sea} (h1:0<=z.1/\z.1<=1099511627776) (h2:0<=z.2.1/\z.2.1<=1099511627776):rdZ (seF z).2 = z/\qZ (seF z).2 = z:=by
  obtain ⟨s1,v1⟩:=le6 h1
  obtain ⟨s6,v6⟩:=le6 h2
  have e:(seF z).2 = nb z.1 6 ++ (nb z.2.1 6 ++ z.2.2):=by unfold seF;rw [Ks.Rs.Pl.ba_assoc]
  obtain ⟨c1,c2⟩:=cut0 (nb z.1 6) (nb z.2.1 6 ++ z.2.2) s1
  obtain ⟨d1,d2⟩:=cut0 (nb z.2.1 6) z.2.2 s6
  refine ⟨?_,?_⟩
  · unfold rdZ nm
    rw [e,c1,c2,d1,d2,v1,v6]
  · have p0 := pt_at ⟨#[]⟩ (nb z.1 6) (nb z.2.1 6 ++ z.2.2) (i := 0) rfl s1
    rw [Ks.Rs.Pl.ba_nil,← e,v1] at p0
    have p1:=pt_at (nb z.1 6) (nb z.2.1 6) z.2.2 s1 s6
    rw [v6] at p1
    have p2:=rs_at (nb z.1 6 ++ nb z.2.1 6) z.2.2 (i:=12) (by rw [ByteArray.size_append];omega)
    unfold qZ
    rw [p0]
    show (z.1,pt (nb z.1 6 ++ nb z.2.1 6 ++ z.2.2) 6 6,rs (nb z.1 6 ++ nb z.2.1 6 ++ z.2.2) 12) = z
    rw [p1,p2]
theorem rdR_back {r:Int × ByteArray} (h:0<=r.1/\r.1<=1048576):rdR (runF r).2 = r/\qR (runF r).2 = r:=by
  obtain ⟨s1,v1⟩:=le4 h
  obtain ⟨c1,c2⟩:=cut0 (nb r.1 4) r.2 s1
  have p0:=pt_at ⟨#[]⟩ (nb r.1 4) r.2 (i:=0) rfl s1
  rw [Ks.Rs.Pl.ba_nil,v1] at p0
  have p2:=rs_at (nb r.1 4) r.2 s1
  refine ⟨?_,?_⟩
  · show (Ks.Pl.numVal (tk 4 (nb r.1 4 ++ r.2)), dr 4 (nb r.1 4 ++ r.2)) = r
    rw [c1,c2,v1]
  · show (pt (nb r.1 4 ++ r.2) 0 4, rs (nb r.1 4 ++ r.2) 4) = r
    rw [p0,p2]
theorem rdE_back {y:ByteArray × Int × Int × Int} (h1:1<=y.2.1/\y.2.1<=1099511627776) (h3:Ks.Ak.hokP y.2.2.1 y.2.2.2):rdE (entF y).2 = y/\qE (entF y).2 = y:=by
  obtain ⟨s6,v6⟩:=le6 ⟨by omega,h1.2⟩
  obtain ⟨g1,v2⟩:=le1 h3.1
  obtain ⟨g6,v7⟩:=le6 h3.2
  have e:(entF y).2 = nb y.2.1 6 ++ (Ks.Ak.hbytes y.2.2.1 y.2.2.2 ++ y.1):=by unfold entF;rw [Ks.Rs.Pl.ba_assoc]
  obtain ⟨c1,c2⟩:=cut0 (nb y.2.1 6) (Ks.Ak.hbytes y.2.2.1 y.2.2.2 ++ y.1) s6
  obtain ⟨d1,d2⟩:=rdH_back h3 y.1
  refine ⟨?_,?_⟩
  · unfold rdE nm
    rw [e,c1,c2,d1,d2,v6]
  · have p0 := pt_at ⟨#[]⟩ (nb y.2.1 6) (Ks.Ak.hbytes y.2.2.1 y.2.2.2 ++ y.1) (i := 0) rfl s6
    rw [Ks.Rs.Pl.ba_nil,← e,v6] at p0
    have e2:(entF y).2 = nb y.2.1 6 ++ nb y.2.2.1 1 ++ (nb y.2.2.2 6 ++ y.1):=by unfold entF Ks.Ak.hbytes;simp only [Ks.Rs.Pl.ba_assoc]
    have p1:=pt_at (nb y.2.1 6) (nb y.2.2.1 1) (nb y.2.2.2 6 ++ y.1) s6 g1
    rw [← e2,v2] at p1
    have e3:(entF y).2 = (nb y.2.1 6 ++ nb y.2.2.1 1) ++ nb y.2.2.2 6 ++ y.1:=by unfold entF Ks.Ak.hbytes;simp only [Ks.Rs.Pl.ba_assoc]
    have p2:=pt_at (nb y.2.1 6 ++ nb y.2.2.1 1) (nb y.2.2.2 6) y.1 (i:=7) (by rw [ByteArray.size_append];omega) g6
    rw [← e3,v7] at p2
    have p3:=rs_at (nb y.2.1 6 ++ nb y.2.2.1 1 ++ nb y.2.2.2 6) y.1 (i:=13) (by rw [ByteArray.size_append,ByteArray.size_append];omega)
    rw [← e3] at p3
    unfold qE
    rw [p0,p1,p2,p3]
theorem head_parts {x:Ino} (h:Bd x):(head x).size = 24/\nm 6 (head x) = x.gen/\rdA (dr 6 (head x)) = (x.kind,x.links,x.size,x.stamp)/\nm 6 (dr 12 (dr 6 (head x))) = x.next/\pt (head x) 0 6 = x.gen/\qA (head x) = (x.kind,x.links,x.size,x.stamp)/\pt (head x) 18 6 = x.next:=by
  obtain ⟨s6,v6⟩:=le6 (n:=x.gen) ⟨by have:=h.gen;omega,h.gen.2⟩
  obtain ⟨g6,w6⟩:=le6 h.next
  have s12:(Ks.Rs.At.packOut x.kind x.links x.size x.stamp).size = 12:=(Ks.Rs.At.back h.at_).1
  have ub:=Ks.Rs.Re.ua_back h.at_
  have e:head x = nb x.gen 6 ++ (Ks.Rs.At.packOut x.kind x.links x.size x.stamp ++ nb x.next 6):=by unfold head;rw [Ks.Rs.Pl.ba_assoc]
  have e1:head x = nb x.gen 6 ++ Ks.Rs.At.packOut x.kind x.links x.size x.stamp ++ nb x.next 6:=rfl
  generalize Ks.Rs.At.packOut x.kind x.links x.size x.stamp = A at *
  obtain ⟨c1,c2⟩:=cut0 (nb x.gen 6) (A ++ nb x.next 6) s6
  obtain ⟨d1,d2⟩:=cut0 A (nb x.next 6) s12
  have p0:=pt_at ⟨#[]⟩ (nb x.gen 6) (A ++ nb x.next 6) (i:=0) rfl s6
  rw [Ks.Rs.Pl.ba_nil,v6] at p0
  have p3:=pt_at (nb x.gen 6 ++ A) (nb x.next 6) ⟨#[]⟩ (i:=18) (by rw [ByteArray.size_append];omega) g6
  rw [Ks.Rs.Pl.ba_nil',← e1,w6] at p3
  have p2:(head x).extract 6 18 = A:=by rw [e1];exact Ks.Rs.Pl.cut_mid _ _ _ 6 18 s6 (by omega)
  refine ⟨by rw [e,ByteArray.size_append,ByteArray.size_append];omega,?_,?_,?_,?_,?_,p3⟩
  · unfold nm;rw [e,c1,v6]
  · unfold rdA;rw [e,c2,d1,ub]
  · unfold nm;rw [e,c2,d2,cutE _ g6,w6]
  · rw [e,p0]
  · unfold qA;rw [p2,ub]
theorem fI_ok {x:Ino} (h:Bd x):Ks.Pl.packErr 1 (fI x) = 0:=by
  have hh:=(head_parts h).1
  have hr:∀ f∈x.runs.map runF,f.1 = 2/\f.2.size<=65535:=fun f hf=>by
    obtain ⟨r,hr,rfl⟩:=List.mem_map.1 hf
    obtain ⟨r1,r2⟩:=h.runs r hr
    have:=(le4 r1).1
    refine ⟨rfl,?_⟩
    show (nb r.1 4 ++ r.2).size<=_
    rw [ByteArray.size_append]
    omega
  have he:∀ f∈x.ents.map entF,f.1 = 3/\f.2.size<=65535:=fun f hf=>by
    obtain ⟨y,hy,rfl⟩:=List.mem_map.1 hf
    obtain ⟨r1,r2,r3⟩:=h.ents y hy
    have:=(le6 (n:=y.2.1) ⟨by omega,r1.2⟩).1
    have:=hb_size r2
    refine ⟨rfl,?_⟩
    show (nb y.2.1 6 ++ Ks.Ak.hbytes y.2.2.1 y.2.2.2 ++ y.1).size<=_
    rw [ByteArray.size_append,ByteArray.size_append]
    omega
  have e3:=pe_seg (m:=[]) (t:=3) (by decide) (x.ents.map entF) (last:=3) (Int.le_refl _) he rfl rfl
  have e2:=pe_seg (m:=[]) (t:=3) (by decide) (x.ents.map entF) (last:=2) (by decide) he rfl rfl
  have e1:=pe_seg (m:=[]) (t:=3) (by decide) (x.ents.map entF) (last:=1) (by decide) he rfl rfl
  rw [List.append_nil] at e1 e2 e3
  have hb:Ks.Pl.badAt 1 (1,head x) = 0:=by
    unfold Ks.Pl.badAt
    rw [if_neg (by simp),if_neg (by simp only;omega),if_neg (by simp)]
  show (if Ks.Pl.badAt 1 (1,head x) = 0 then Ks.Pl.packErr 1 (x.runs.map runF ++ x.ents.map entF) else _) = 0
  rw [if_pos hb]
  exact pe_seg (by decide) _ (by decide) hr e2 e1
theorem unp_of {l:List F} (h:Ks.Pl.packErr 1 l = 0):Ks.Pl.unpOut (Ks.Pl.packOut l).data.toList = l/\Ks.Pl.unpErr (Ks.Pl.packOut l).data.toList = 0:=by
  unfold Ks.Pl.packOut
  rw [if_pos h,Ks.Pl.txt_data]
  exact Ks.Pl.unp_encs l h
theorem back_I {x:Ino} (h:Bd x):rdI (inoB x) = x/\qI (inoB x) = x:=by
  obtain ⟨h0,h1,h2,h3,h4,h5,h6⟩:=head_parts h
  have hu:=(unp_of (fI_ok h)).1
  unfold rdI qI inoB
  rw [hu]
  unfold fI
  rw [List.foldl_cons,List.foldl_append,List.foldl_cons,List.foldl_append]
  have a1:stI zeroI (1,head x) = ⟨x.gen,x.kind,x.links,x.size,x.stamp,[],[],x.next⟩:=by
    unfold stI
    rw [if_pos rfl]
    simp only [h1,h2,h3,zeroI]
  have b1:qtI zeroI (1,head x) = ⟨x.gen,x.kind,x.links,x.size,x.stamp,[],[],x.next⟩:=by
    unfold qtI
    rw [if_pos rfl,if_pos h0]
    simp only [h4,h5,h6,zeroI]
  rw [a1,b1]
  have a2:=fold_map stI runF (fun y l=>{ y with runs:=y.runs ++ l }) ⟨x.gen,x.kind,x.links,x.size,x.stamp,[],[],x.next⟩ x.runs rfl fun m r hr=>by
    show stI _ (2,nb r.1 4 ++ r.2) = _
    unfold stI
    rw [if_neg (by simp),if_pos rfl]
    simp only [show rdR (nb r.1 4 ++ r.2) = r from (rdR_back (h.runs r hr).1).1,List.append_assoc]
  have b2:=fold_map qtI runF (fun y l=>{ y with runs:=y.runs ++ l }) ⟨x.gen,x.kind,x.links,x.size,x.stamp,[],[],x.next⟩ x.runs rfl fun m r hr=>by
    show qtI _ (2,nb r.1 4 ++ r.2) = _
    unfold qtI
    rw [if_neg (by simp),if_pos rfl]
    simp only [show qR (nb r.1 4 ++ r.2) = r from (rdR_back (h.runs r hr).1).2,List.append_assoc]
  rw [a2,b2]
  have a3:=fold_map stI entF (fun y l=>{ y with ents:=y.ents ++ l }) ⟨x.gen,x.kind,x.links,x.size,x.stamp,[] ++ x.runs,[],x.next⟩ x.ents rfl fun m r hr=>by
    show stI _ (3,(entF r).2) = _
    unfold stI
    rw [if_neg (by simp),if_neg (by simp),if_pos rfl]
    simp only [(rdE_back (h.ents r hr).1 (h.ents r hr).2.1).1,List.append_assoc]
  have b3:=fold_map qtI entF (fun y l=>{ y with ents:=y.ents ++ l }) ⟨x.gen,x.kind,x.links,x.size,x.stamp,[] ++ x.runs,[],x.next⟩ x.ents rfl fun m r hr=>by
    show qtI _ (3,(entF r).2) = _
    unfold qtI
    rw [if_neg (by simp),if_neg (by simp),if_pos rfl]
    simp only [(rdE_back (h.ents r hr).1 (h.ents r hr).2.1).2,List.append_assoc]
  exact ⟨a3,b3⟩
/-- A whole state's parts. -/
structure Wh (L:List Ino) (O:List Os.Opn) (Z:List Es.Sea) (dn:Int):Prop where
  bd:∀ x∈L,Bd x
  os:∀ o∈O,(0<=o.1/\o.1<=255)/\(0<=o.2.1/\o.2.1<=1099511627776)/\Ks.Ak.hokP o.2.2.1 o.2.2.2
  zs:∀ z∈Z,(0<=z.1/\z.1<=1099511627776)/\(0<=z.2.1/\z.2.1<=1099511627776)/\z.2.2.size<=8192
  dn:0<=dn/\dn<=1099511627776
  lens:L.length<=24/\O.length<=16/\Z.length<=6
theorem wh_of {L:List Ino} {O:List Os.Opn} {Z:List Es.Sea} {dn:Int} (h:whole L O Z dn = true):Wh L O Z dn:=by
  unfold whole at h
  simp only [Bool.and_eq_true] at h
  obtain ⟨h1,h2,-⟩:=h
  unfold Nf.right at h1
  simp only [Bool.and_eq_true,decide_eq_true_eq] at h1
  obtain ⟨a1,a2,-,a3,a4⟩:=h1
  obtain ⟨b1,b2,-⟩:=(Es.Se.ok_iff Z).1 h2
  refine ⟨fun x hx=>bd_of a1 a3 hx,fun o ho=>?_,fun z hz=>?_,(Nf.doneOk_iff.1 a4).1,(It.right_iff.1 (Sp.isSp_iff.1 a1).1).1.2,Os.Op.right_len a2,b1⟩
  · obtain ⟨g1, g2, ⟨g3, g4⟩, g5, g6⟩ := ((Os.Op.right_iff O 0).1 a2).1 o ho
    exact ⟨⟨g1.1,by omega⟩,g2,⟨⟨g3,by omega⟩,by omega,g6⟩⟩
  · obtain ⟨g1, ⟨g2, g3⟩, g4⟩ := b2 z hz
    exact ⟨g1,⟨by omega,g3⟩,g4⟩
theorem back_S {L:List Ino} {O:List Os.Opn} {Z:List Es.Sea} {dn:Int} (h:Wh L O Z dn) (hp:Ks.Pl.packErr 1 (fS L O Z dn) = 0):rdS (Ks.Pl.packOut (fS L O Z dn)) = ⟨L,O,Z,dn⟩/\qS (Ks.Pl.packOut (fS L O Z dn)) = ⟨L,O,Z,dn⟩:=by
  have hu:=(unp_of hp).1
  obtain ⟨s6,v6⟩:=le6 h.dn
  unfold rdS qS
  rw [hu]
  unfold fS
  rw [List.foldl_cons,List.foldl_append,List.foldl_append,List.foldl_cons,List.foldl_append,List.foldl_append]
  have a1:stS st0 (1,nb dn 6) = ⟨[],[],[],dn⟩:=by
    unfold stS nm
    rw [if_pos rfl]
    simp only [cutE _ s6,v6,st0]
  have b1:qtS st0 (1,nb dn 6) = ⟨[],[],[],dn⟩:=by
    have p0:=pt_at ⟨#[]⟩ (nb dn 6) ⟨#[]⟩ (i:=0) rfl s6
    rw [Ks.Rs.Pl.ba_nil,Ks.Rs.Pl.ba_nil',v6] at p0
    unfold qtS
    rw [if_pos rfl]
    simp only [p0,st0]
  rw [a1,b1]
  have a2:=fold_map stS inoF (fun y l=>{ y with L:=y.L ++ l }) ⟨[],[],[],dn⟩ L rfl fun m x hx=>by
    show stS _ (2,inoB x) = _
    unfold stS
    rw [if_neg (by simp),if_pos rfl]
    simp only [(back_I (h.bd x hx)).1,List.append_assoc]
  have b2:=fold_map qtS inoF (fun y l=>{ y with L:=y.L ++ l }) ⟨[],[],[],dn⟩ L rfl fun m x hx=>by
    show qtS _ (2,inoB x) = _
    unfold qtS
    rw [if_neg (by simp),if_pos rfl]
    simp only [(back_I (h.bd x hx)).2,List.append_assoc]
  rw [a2,b2]
  have a3:=fold_map stS opF (fun y l=>{ y with O:=y.O ++ l }) ⟨[] ++ L,[],[],dn⟩ O rfl fun m x hx=>by
    show stS _ (3,(opF x).2) = _
    unfold stS
    rw [if_neg (by simp),if_neg (by simp),if_pos rfl]
    simp only [(rdO_back (h.os x hx).1 (h.os x hx).2.1 (h.os x hx).2.2).1,List.append_assoc]
  have b3:=fold_map qtS opF (fun y l=>{ y with O:=y.O ++ l }) ⟨[] ++ L,[],[],dn⟩ O rfl fun m x hx=>by
    show qtS _ (3,(opF x).2) = _
    unfold qtS
    rw [if_neg (by simp),if_neg (by simp),if_pos rfl]
    simp only [(rdO_back (h.os x hx).1 (h.os x hx).2.1 (h.os x hx).2.2).2,List.append_assoc]
  rw [a3,b3]
  have a4:=fold_map stS seF (fun y l=>{ y with Z:=y.Z ++ l }) ⟨[] ++ L,[] ++ O,[],dn⟩ Z rfl fun m x hx=>by
    show stS _ (4,(seF x).2) = _
    unfold stS
    rw [if_neg (by simp),if_neg (by simp),if_neg (by simp),if_pos rfl]
    simp only [(rdZ_back (h.zs x hx).1 (h.zs x hx).2.1).1,List.append_assoc]
  have b4:=fold_map qtS seF (fun y l=>{ y with Z:=y.Z ++ l }) ⟨[] ++ L,[] ++ O,[],dn⟩ Z rfl fun m x hx=>by
    show qtS _ (4,(seF x).2) = _
    unfold qtS
    rw [if_neg (by simp),if_neg (by simp),if_neg (by simp),if_pos rfl]
    simp only [(rdZ_back (h.zs x hx).1 (h.zs x hx).2.1).2,List.append_assoc]
  exact ⟨a4,b4⟩
/-- There and back. -/
theorem pk_back {L:List Ino} {O:List Os.Opn} {Z:List Es.Sea} {dn:Int} (h:pkE L O Z dn = 0):whole L O Z dn = true/\rdS (pkO L O Z dn) = ⟨L,O,Z,dn⟩/\qS (pkO L O Z dn) = ⟨L,O,Z,dn⟩:=by
  unfold pkE at h
  by_cases hw:whole L O Z dn = true
  · rw [if_pos hw] at h
    have:=back_S (wh_of hw) h
    unfold pkO
    rw [if_pos hw]
    exact ⟨hw,this⟩
  · rw [if_neg hw] at h
    exact absurd h (by decide)
/-- What both read is the same, where it counts. -/
theorem isS_q (b:ByteArray):isS (qS b) b = isS (rdS b) b/\(isS (rdS b) b = true->qS b = rdS b):=by
  have key:∀ x:Sta,isS x b = true->rdS b = x/\qS b = x:=fun x hx=>by
    unfold isS at hx
    simp only [Bool.and_eq_true,decide_eq_true_eq] at hx
    obtain ⟨h1,h2⟩:=hx
    obtain ⟨-,h3,h4⟩:=pk_back h1
    rw [h2] at h3 h4
    exact ⟨h3,h4⟩
  refine ⟨?_,fun h=>(key _ h).2⟩
  cases h1:isS (rdS b) b with
  | true =>
    have:=(key _ h1).2
    rw [this,h1]
  | false =>
    cases h2:isS (qS b) b with
    | false=>rfl
    | true =>
      have:=(key _ h2).1
      rw [this] at h1
      rw [h1] at h2
      cases h2
end Sh
namespace Sh
/-- Not too many runs and entries. -/
def Sm (L:List Ino):Prop:=∀ x∈L,x.runs.length<=30000/\x.ents.length<=30000
theorem one_len (f:F):(Ks.Pl.encOne f).length = 3 + f.2.size:=by
  obtain ⟨t,s⟩:=f
  have e:s.data.toList.length = s.size:=by simp
  show ([_,_,_] ++ s.data.toList).length = 3 + s.size
  rw [List.length_append,e]
  rfl
theorem encs_one (f:F) (l:List F):(Ks.Pl.encs (f :: l)).length = 3 + f.2.size + (Ks.Pl.encs l).length:=by
  show (List.flatMap Ks.Pl.encOne (f :: l)).length = _
  rw [List.flatMap_cons,List.length_append,one_len]
  rfl
theorem encs_len (l:List F) {m:Nat} (h:∀ f∈l,f.2.size<=m):(Ks.Pl.encs l).length<=l.length * (3 + m):=by
  induction l with
  | nil=>simp [Ks.Pl.encs]
  | cons x l ih =>
    have h1:=ih fun f hf=>h f (by simp [hf])
    have h2:=h x (by simp)
    rw [encs_one,List.length_cons,Nat.succ_mul]
    omega
theorem encs_app (l m:List F):(Ks.Pl.encs (l ++ m)).length = (Ks.Pl.encs l).length + (Ks.Pl.encs m).length:=by simp [Ks.Pl.encs]
theorem runF_le {x:Ino} (h:Bd x):∀ f∈x.runs.map runF,f.2.size<=8196:=fun f hf=>by
  obtain ⟨r,hr,rfl⟩:=List.mem_map.1 hf
  obtain ⟨r1,r2⟩:=h.runs r hr
  have:=(le4 r1).1
  show (nb r.1 4 ++ r.2).size<=_
  rw [ByteArray.size_append]
  omega
theorem entF_le {x:Ino} (h:Bd x):∀ f∈x.ents.map entF,f.2.size<=45:=fun f hf=>by
  obtain ⟨y,hy,rfl⟩:=List.mem_map.1 hf
  obtain ⟨r1,r2,r3⟩:=h.ents y hy
  have:=(le6 (n:=y.2.1) ⟨by omega,r1.2⟩).1
  have:=hb_size r2
  show (nb y.2.1 6 ++ Ks.Ak.hbytes y.2.2.1 y.2.2.2 ++ y.1).size<=_
  rw [ByteArray.size_append,ByteArray.size_append]
  omega
theorem fI_le {x:Ino} (h:Bd x) (h1:x.runs.length<=30000) (h2:x.ents.length<=30000):(Ks.Pl.encs (fI x)).length<=300000000:=by
  have hh:=(head_parts h).1
  have a:=encs_len _ (runF_le h)
  have b:=encs_len _ (entF_le h)
  rw [List.length_map] at a b
  unfold fI
  rw [encs_one,encs_app]
  show 3 + (head x).size + _<=_
  omega
theorem txt_le (l:List F):(Ks.Pl.packOut l).size<=(Ks.Pl.encs l).length:=by
  unfold Ks.Pl.packOut
  split
  · rw [Ks.Pl.txt_size];exact Nat.le_refl _
  · rw [Ks.Pl.txt_size];exact Nat.zero_le _
theorem opF_le {L:List Ino} {O:List Os.Opn} {Z:List Es.Sea} {dn:Int} (h:Wh L O Z dn):∀ f∈O.map opF,f.2.size<=14:=fun f hf=>by
  obtain ⟨o,ho,rfl⟩:=List.mem_map.1 hf
  obtain ⟨r1,r2,r3⟩:=h.os o ho
  have:=(le1 r1).1
  have:=(le6 r2).1
  have:=hb_size r3
  show (nb o.1 1 ++ nb o.2.1 6 ++ Ks.Ak.hbytes o.2.2.1 o.2.2.2).size<=_
  rw [ByteArray.size_append,ByteArray.size_append]
  omega
theorem seF_le {L:List Ino} {O:List Os.Opn} {Z:List Es.Sea} {dn:Int} (h:Wh L O Z dn):∀ f∈Z.map seF,f.2.size<=8204:=fun f hf=>by
  obtain ⟨z,hz,rfl⟩:=List.mem_map.1 hf
  obtain ⟨r1,r2,r3⟩:=h.zs z hz
  have:=(le6 r1).1
  have:=(le6 r2).1
  show (nb z.1 6 ++ nb z.2.1 6 ++ z.2.2).size<=_
  rw [ByteArray.size_append,ByteArray.size_append]
  omega
theorem fS_le {L:List Ino} {O:List Os.Opn} {Z:List Es.Sea} {dn:Int} (h:Wh L O Z dn) (hs:Sm L):(Ks.Pl.encs (fS L O Z dn)).length<=1099511627776:=by
  obtain ⟨l1,l2,l3⟩:=h.lens
  have a:=encs_len (L.map inoF) (m:=300000000) fun f hf=>by
    obtain ⟨x,hx,rfl⟩:=List.mem_map.1 hf
    exact Nat.le_trans (txt_le _) (fI_le (h.bd x hx) (hs x hx).1 (hs x hx).2)
  have b:=encs_len _ (opF_le h)
  have c:=encs_len _ (seF_le h)
  have d:=(le6 h.dn).1
  rw [List.length_map] at a b c
  unfold fS
  rw [encs_one,encs_app,encs_app]
  show 3 + (nb dn 6).size + _<=_
  omega
/-- What a state weighs. -/
def wt (x:Ino):Nat:=x.ents.length + x.runs.length + Nf.tot x.runs
def wts (L:List Ino):Nat:=(L.map wt).sum
theorem wt_mem:∀ {L:List Ino} {x:Ino},x∈L->wt x<=wts L
  | y :: L, x, h => by
    have e:wts (y :: L) = wt y + wts L:=by simp [wts]
    rcases List.mem_cons.1 h with rfl | h
    · omega
    · have:=wt_mem h;omega
theorem sm_of {L:List Ino} (h:wts L<=12000):Sm L:=fun x hx=>by
  have:=wt_mem hx
  unfold wt at this
  omega
theorem run_sum:∀ {l:List (Int × ByteArray)},(∀ r∈l,0<=r.1/\r.1<=1048576)->(Ks.Pl.encs (l.map runF)).length<=7 * l.length + Nf.tot l
  | [],_=>by simp [Ks.Pl.encs]
  | r :: l, h => by
    have ih:=run_sum (l:=l) fun q hq=>h q (by simp [hq])
    have e:Nf.tot (r :: l) = r.2.size + Nf.tot l:=by simp [Nf.tot,Bs.Bl.total]
    have:=(le4 (h r (by simp))).1
    rw [List.map_cons,encs_one,List.length_cons,e]
    show 3 + (nb r.1 4 ++ r.2).size + _<=_
    rw [ByteArray.size_append]
    omega
theorem ino_sum {x:Ino} (h:Bd x):(inoB x).size<=27 + 48 * wt x:=by
  have hh:=(head_parts h).1
  have a:=run_sum fun r hr=>(h.runs r hr).1
  have b:=encs_len _ (entF_le h)
  rw [List.length_map] at b
  refine Nat.le_trans (txt_le _) ?_
  unfold fI wt
  rw [encs_one,encs_app]
  show 3 + (head x).size + _<=_
  omega
theorem inos_sum:∀ {L:List Ino},(∀ x∈L,Bd x)->(Ks.Pl.encs (L.map inoF)).length<=30 * L.length + 48 * wts L
  | [],_=>by simp [Ks.Pl.encs]
  | x :: L, h => by
    have ih:=inos_sum (L:=L) fun q hq=>h q (by simp [hq])
    have e:wts (x :: L) = wt x + wts L:=by simp [wts]
    have:=ino_sum (h x (by simp))
    rw [List.map_cons,encs_one,List.length_cons,e]
    show 3 + (inoB x).size + _<=_
    omega
theorem pk_le {L:List Ino} {O:List Os.Opn} {Z:List Es.Sea} {dn:Int} (h:Wh L O Z dn) (hs:wts L<=12000):(Ks.Pl.packOut (fS L O Z dn)).size<=1048576:=by
  obtain ⟨l1,l2,l3⟩:=h.lens
  have a:=inos_sum h.bd
  have b:=encs_len _ (opF_le h)
  have c:=encs_len _ (seF_le h)
  have d:=(le6 h.dn).1
  rw [List.length_map] at b c
  refine Nat.le_trans (txt_le _) ?_
  unfold fS
  rw [encs_one,encs_app,encs_app]
  show 3 + (nb dn 6).size + _<=_
  omega
theorem pkO_le {L:List Ino} {O:List Os.Opn} {Z:List Es.Sea} {dn:Int} (hs:whole L O Z dn = true->wts L<=12000):(pkO L O Z dn).size<=1048576:=by
  unfold pkO
  split
  · rename_i h
    exact pk_le (wh_of h) (hs h)
  · exact Nat.zero_le _
/-- What a whole state weighs, as far as lists are as long as memory allows. -/
theorem wts_le:∀ {L:List Ino} {m:Nat},(∀ x∈L,x.runs.length<=m/\x.ents.length<=m)->wts L<=L.length * (2 * m) + Nf.By L
  | [],_,_=>by simp [wts]
  | x :: L, m, h => by
    have ih:=wts_le (L:=L) fun q hq=>h q (by simp [hq])
    have e:wts (x :: L) = wt x + wts L:=by simp [wts]
    have:=h x (by simp)
    rw [e,Nf.By_cons,List.length_cons,Nat.succ_mul]
    unfold wt
    omega
theorem whole_wts {L:List Ino} {O:List Os.Opn} {Z:List Es.Sea} {dn:Int} (h:whole L O Z dn = true) (hm:∀ x∈L,x.runs.length<=5864062014805/\x.ents.length<=5864062014805):wts L + O.length + Z.length<=281474976710656 * 2:=by
  have hw:=wh_of h
  obtain ⟨l1,l2,l3⟩:=hw.lens
  unfold whole Nf.right at h
  simp only [Bool.and_eq_true,decide_eq_true_eq] at h
  obtain ⟨⟨a1,-,-,a3,-⟩,-⟩:=h
  have hby:=Nf.all_by (It.right_iff.1 (Sp.isSp_iff.1 a1).1 |> fun _=>(Sp.isSp_iff.1 a1).1)
  have:=wts_le hm
  have:L.length * (2 * 5864062014805)<=24 * (2 * 5864062014805):=Nat.mul_le_mul_right _ l1
  omega
/-- Reading: as many runs and entries as there are fields. -/
theorem stI_one (f:F) (x:Ino):(stI x f).runs.length<=x.runs.length + 1/\(stI x f).ents.length<=x.ents.length + 1:=by
  unfold stI
  repeat' split
  all_goals exact ⟨by simp,by simp⟩
theorem fold_len (st:Ino->F->Ino) (hst:∀ f x,(st x f).runs.length<=x.runs.length + 1/\(st x f).ents.length<=x.ents.length + 1) (l:List F):∀ x:Ino,(l.foldl st x).runs.length<=x.runs.length + l.length/\(l.foldl st x).ents.length<=x.ents.length + l.length:=by
  induction l with
  | nil=>intro x;exact ⟨Nat.le_refl _,Nat.le_refl _⟩
  | cons f l ih =>
    intro x
    have h:=ih (st x f)
    have h1:=hst f x
    rw [List.foldl_cons,List.length_cons]
    omega
theorem unp_len (s:ByteArray):(Ks.Pl.unpOut s.data.toList).length * 3<=s.size:=by
  have:=Ks.Rs.Ak.parse_len s.data.toList.length 1 s.data.toList
  have e:s.data.toList.length = s.size:=by simp
  unfold Ks.Pl.unpOut
  omega
theorem rdI_len (s:ByteArray):(rdI s).runs.length<=s.size/\(rdI s).ents.length<=s.size:=by
  have h:=fold_len stI stI_one (Ks.Pl.unpOut s.data.toList) zeroI
  have:=unp_len s
  have e:zeroI.runs.length = 0/\zeroI.ents.length = 0:=⟨rfl,rfl⟩
  unfold rdI
  omega
/-- An inode of a state that is read is one of its fields, read. -/
theorem rdS_mem (s : ByteArray) : ∀ x ∈ (rdS s).L, ∃ f ∈ Ks.Pl.unpOut s.data.toList, x = rdI f.2 := by
  have go : ∀ (l : List F) (x : Sta), ∀ y ∈ (l.foldl stS x).L, y ∈ x.L ∨ ∃ f ∈ l, y = rdI f.2 := by
    intro l
    induction l with
    | nil=>intro x y hy;exact .inl hy
    | cons f l ih =>
      intro x y hy
      rw [List.foldl_cons] at hy
      rcases ih _ y hy with h | ⟨g,hg,e⟩
      · have : (stS x f).L = x.L ∨ (stS x f).L = x.L ++ [rdI f.2] := by
          unfold stS
          repeat' split
          all_goals simp
        rcases this with e | e
        · rw [e] at h;exact .inl h
        · rw [e] at h
          rcases List.mem_append.1 h with h | h
          · exact .inl h
          · rw [List.mem_singleton] at h;exact .inr ⟨f,by simp,h⟩
      · exact .inr ⟨g,by simp [hg],e⟩
  intro x hx
  rcases go _ _ x hx with h | h
  · exact absurd h (by simp [st0])
  · exact h
theorem fld_size (s:ByteArray):∀ f∈Ks.Pl.unpOut s.data.toList,f.2.size<=65535:=fun f hf=>Ks.Rs.Ak.parse_small _ _ _ f hf
end Sh
end Go.Proofs.YtggoccfddnpelaaGreatDoor
namespace Go.Proofs.YtggoccfddnpelaaGreatDoor.Es
open Go.ChangeShapes Go.WideShapes Go.ChangeAt Go.RowKit Go.Deep
set_option maxRecDepth 100000
theorem laidOut:laidOutB Tryz.prog = true:=by kernel_rfl
theorem own:ownKnob Tryz.prog.godebug = none:=by kernel_rfl
theorem infoS:(Tryz.prog.info? 62).map (fun i=>(i.zero,i.size,i.bytes)) = some (some (.agg #[.int .i64 0,.int .i64 0,.string ⟨#[]⟩]),3,32):=by kernel_rfl
theorem info_parts {P:Program} {e:TypeId} {z:Value} {n b:Nat} (h:(P.info? e).map (fun i=>(i.zero,i.size,i.bytes)) = some (some z,n,b)):∃ i,P.info? e = some i/\i.zero = some z/\i.size = n/\i.bytes = b:=by
  cases hi:P.info? e with
  | none=>rw [hi] at h;cases h
  | some i =>
    rw [hi] at h
    simp at h
    exact ⟨i,rfl,h.1,h.2.1,h.2.2⟩
theorem within_any (lo x hi:Int) (w:World):Calls Tryz.prog 57 #[.int .i64 lo,.int .i64 x,.int .i64 hi] w fun e w'=>e = .returned (.bool (decide (lo<=x/\x<=hi)))/\w' = w:=by
  by_cases h1:lo<=x
  · by_cases h2 : x ≤ hi
    · rw [decide_eq_true (show lo ≤ x ∧ x ≤ hi from ⟨h1, h2⟩)]
      go_enter Tryz.func57,Tryz.ntmps57
      go_wp2
      go_ret
      exact ⟨rfl,rfl⟩
    · rw [decide_eq_false (show ¬ (lo ≤ x ∧ x ≤ hi) from fun h => h2 h.2)]
      go_enter Tryz.func57,Tryz.ntmps57
      go_wp2
      go_ret
      exact ⟨rfl,rfl⟩
  · rw [decide_eq_false (show ¬ (lo ≤ x ∧ x ≤ hi) from fun h => h1 h.1)]
    go_enter Tryz.func57,Tryz.ntmps57
    go_wp2
    go_ret
    exact ⟨rfl,rfl⟩
theorem within_yes (lo x hi:Int) (w:World) (h:lo<=x/\x<=hi):Calls Tryz.prog 57 #[.int .i64 lo,.int .i64 x,.int .i64 hi] w fun e w'=>e = .returned (.bool true)/\w' = w:=by
  have:=within_any lo x hi w
  rwa [decide_eq_true h] at this
theorem within_no (lo x hi:Int) (w:World) (h:¬ (lo<=x/\x<=hi)):Calls Tryz.prog 57 #[.int .i64 lo,.int .i64 x,.int .i64 hi] w fun e w'=>e = .returned (.bool false)/\w' = w:=by
  have:=within_any lo x hi w
  rwa [decide_eq_false h] at this
theorem rreq_any (c:Int) (w:World):Calls Tryz.prog 58 #[.int .i64 c] w fun e w'=>e = .returned (.bool (decide (Se.Rq c)))/\w' = w:=by
  obtain ⟨b,hb⟩:∃ b,decide (Se.Rq c) = b:=⟨_,rfl⟩
  have HD:Hid (decide (1<=c/\c<=1099511627776) = b):=(show decide (1<=c/\c<=1099511627776) = decide (Se.Rq c) from decide_eq_decide.2 Iff.rfl).trans hb
  rw [hb]
  clear hb
  go_enter Tryz.func58,Tryz.ntmps58
  go_wp2_with fail
  refine (within_any _ _ _ _).mono ?_
  rintro e w' ⟨rfl,rfl⟩
  rw [HD.out]
  go_wp2
  go_ret
  exact ⟨rfl,rfl⟩
theorem rreq_yes (c:Int) (w:World) (h:Se.Rq c):Calls Tryz.prog 58 #[.int .i64 c] w fun e w'=>e = .returned (.bool true)/\w' = w:=by
  have:=rreq_any c w
  rwa [decide_eq_true h] at this
theorem rreq_no (c:Int) (w:World) (h:¬ Se.Rq c):Calls Tryz.prog 58 #[.int .i64 c] w fun e w'=>e = .returned (.bool false)/\w' = w:=by
  have:=rreq_any c w
  rwa [decide_eq_false h] at this
abbrev BS (x:Sea):Obj:=.cells #[.int .i64 x.1,.int .i64 x.2.1,.string x.2.2] 62
abbrev VS (x:Sea):Value:=.agg #[.int .i64 x.1,.int .i64 x.2.1,.string x.2.2]
theorem cell_lt {w:World} {b j:Nat} {v:Value} (h:w.cell? ⟨b,j,none⟩ = some v):b < w.heap.size:=by
  unfold World.cell? at h
  by_cases hb:b < w.heap.size
  · exact hb
  · rw [Array.getElem?_eq_none (by simpa using hb)] at h
    simp at h
theorem cell_next {w w':World} {b j:Nat} {v:Value} (h:w.cell? ⟨b,j,none⟩ = some v) (hb:Below w.heap.size w w') (hl:b < w.heap.size):w'.cell? ⟨b,j,none⟩ = some v:=(hb.cell (p:=⟨b,j,none⟩) hl).trans h
theorem cell_step {w w':World} {b j:Nat} {v:Value} (h:w.cell? ⟨b,j,none⟩ = some v) (hb:Below w.heap.size w w'):w'.cell? ⟨b,j,none⟩ = some v:=cell_next h hb (cell_lt h)
theorem undrew {w w':World} (h:Below w.drew.heap.size w.drew w'):Below w.heap.size w w':=⟨h.os,h.tape,h.output,h.size,h.block⟩
theorem sea_cells {w wr:World} {b off k:Nat} {x:Sea} (h:Below w.heap.size w wr) (hB:b < w.heap.size) (hc:∀ j u,(ES.cells x)[j]? = some u->w.cell? ⟨b,off + (k * ES.sz + j),none⟩ = some u) :
    wr.cell? ⟨b,off + k * 3,none⟩ = some (.int .i64 x.1)/\wr.cell? ⟨b,off + k * 3 + 1,none⟩ = some (.int .i64 x.2.1)/\wr.cell? ⟨b,off + k * 3 + 2,none⟩ = some (.string x.2.2):=by
  have a:=fun j u hj=>(h.cell (p:=⟨b,off + (k * ES.sz + j),none⟩) hB).trans (hc j u hj)
  exact ⟨a 0 _ rfl,a 1 _ rfl,a 2 _ rfl⟩
/-- What a slice that stands for a list gives a loop over it. -/
abbrev Over (w:World) (ao:Option Addr) (l:List Sea):Prop:=∀ i x,l[i]? = some x->∃ b off,ao = some ⟨b,off,none⟩/\True/\b < w.heap.size/\∀ k u,(ES.cells x)[k]? = some u->w.cell? ⟨b,off + (i * ES.sz + k),none⟩ = some u
set_option maxHeartbeats 2000000 in
theorem check_any (v : Value) (l : List Sea) (w : World) (hv : AtW ES w v l) :
    Calls Tryz.prog 31 #[v] w fun e w'=>e = .returned (.int .i64 (if Se.ok l = true then 0 else 4))/\Below w.heap.size w w':=by
  obtain ⟨ao,cap,rfl,hm,hx⟩:=hv.open
  clear hv
  unfold maxLen at hm
  obtain ⟨n,hn⟩:∃ n,l.length = n:=⟨_,rfl⟩
  rw [hn] at hm ⊢
  have HN:Hid (l.length = n):=hn
  have HX:Hid (Over w ao l):=hx
  obtain ⟨r,hr⟩:∃ r,(if Se.ok l = true then (0:Int) else 4) = r:=⟨_,rfl⟩
  rw [hr]
  have HR:Hid ((if Se.ok l = true then (0:Int) else 4) = r):=hr
  clear hn hx hr
  by_cases h6:n<=6
  · have h6' : (n : Int) ≤ 6 := by omega
    have HOK:Hid (Se.ok l = Se.right 0 l):=by show Se.ok l = Se.right 0 l;unfold Se.ok;rw [decide_eq_true (by rw [HN.out];exact h6),Bool.true_and]
    go_enter Tryz.func31,Tryz.ntmps31
    go_wp2
    go_loopw [3,11] (fun t i wr=>∃ (k:Nat) (t':Int),k<=n/\i = .int .i64 k/\t = .int .i64 t'/\0<=t'/\Hid (Se.right 0 l = Se.right t' (l.drop k))/\Hid (Below w.heap.size w wr)) (fun _ i _=>n - (intOf i).toNat)
    case atStart=>exact ⟨0,0,Nat.zero_le _,rfl,rfl,Int.le_refl _,rfl,Below.refl _ _⟩
    case round =>
      obtain ⟨k,t,hk,rfl,rfl,ht0,HP,HB⟩:=hrel
      have hsz:=HB.out.size
      by_cases hlt:k < n
      · obtain ⟨x, hxk⟩ : ∃ x, l[k]? = some x := ⟨_, List.getElem?_eq_getElem (by rw [HN.out]; exact hlt)⟩
        have HXK:Hid (l[k]? = some x):=hxk
        obtain ⟨b,off,rfl,-,hB,hc⟩:=HX.out k x hxk
        obtain ⟨c0,c1,c2⟩:=sea_cells HB.out hB hc
        clear hc hxk
        have hlt':(k:Int) < (n:Int):=by omega
        have HNO:Hid (¬ Se.good t x->r = 4):=fun hg=>by
          have:=HR.out
          rw [HOK.out,HP.out,Se.right_no HXK.out hg] at this
          exact this.symm
        have HYES:Hid (Se.good t x->Se.right 0 l = Se.right (x.1 + 1) (l.drop (k + 1))):=fun hg=>HP.out.trans (Se.right_yes HXK.out hg)
        by_cases g1:t<=x.1/\x.1<=1099511627776
        · have G1 : Hid (t ≤ x.1 ∧ x.1 ≤ 1099511627776) := g1
          by_cases g2:Se.Rq x.2.1
          · have G2 : Hid (Se.Rq x.2.1) := g2
            by_cases g3:x.2.2.size<=8192
            · have hle := g1.2
              have HY:Hid (Se.right 0 l = Se.right (x.1 + 1) (l.drop (k + 1))):=HYES.out ⟨g1,g2,g3⟩
              have hge:0<=x.1:=by omega
              have g3':¬ (8192:Int) < (x.2.2.size:Int):=by omega
              clear g1 g2
              go_wp2_with fail
              refine (within_yes _ _ _ _ G1.out).mono ?_
              rintro e w' ⟨rfl,rfl⟩
              go_wp2_with fail
              refine (rreq_yes _ _ G2.out).mono ?_
              rintro e w' ⟨rfl,rfl⟩
              go_wp2
              go_roundw
              case rel=>exact ⟨k + 1,x.1 + 1,by omega,by go_num,by go_num,by omega,HY,HB.out.alloc hsz _⟩
              case measure=>simp [intOf];omega
            · have H : Hid (r = 4) := HNO.out fun h => g3 h.2.2
              have g3':(8192:Int) < (x.2.2.size:Int):=by omega
              clear g1 g2
              go_wp2_with fail
              refine (within_yes _ _ _ _ G1.out).mono ?_
              rintro e w' ⟨rfl,rfl⟩
              go_wp2_with fail
              refine (rreq_yes _ _ G2.out).mono ?_
              rintro e w' ⟨rfl,rfl⟩
              go_wp2
              go_ret
              rw [H.out]
              exact ⟨rfl,HB.out.alloc hsz _⟩
          · have H : Hid (r = 4) := HNO.out fun h => g2 h.2.1
            have G2:Hid (¬ Se.Rq x.2.1):=g2
            clear g1 g2
            go_wp2_with fail
            refine (within_yes _ _ _ _ G1.out).mono ?_
            rintro e w' ⟨rfl,rfl⟩
            go_wp2_with fail
            refine (rreq_no _ _ G2.out).mono ?_
            rintro e w' ⟨rfl,rfl⟩
            go_wp2
            go_ret
            rw [H.out]
            exact ⟨rfl,HB.out.alloc hsz _⟩
        · have H : Hid (r = 4) := HNO.out fun h => g1 h.1
          have G1:Hid (¬ (t<=x.1/\x.1<=1099511627776)):=g1
          clear g1
          go_wp2_with fail
          refine (within_no _ _ _ _ G1.out).mono ?_
          rintro e w' ⟨rfl,rfl⟩
          go_wp2
          go_ret
          rw [H.out]
          exact ⟨rfl,HB.out.alloc hsz _⟩
      · obtain rfl : k = n := by omega
        have H:Hid (r = 0):=by
          have:=HR.out
          rw [HOK.out,HP.out,Se.right_end HN.out.symm,if_pos rfl] at this
          exact this.symm
        go_wp2
        go_ret
        rw [H.out]
        exact ⟨rfl,HB.out⟩
  · have h6' : 6 < (n : Int) := by omega
    have H:Hid (r = 4):=by
      have:=HR.out
      unfold Se.ok at this
      rw [decide_eq_false (by rw [HN.out];exact h6),Bool.false_and] at this
      exact this.symm
    go_enter Tryz.func31,Tryz.ntmps31
    go_wp2
    go_ret
    rw [H.out]
    exact ⟨rfl,Below.refl _ _⟩
end Go.Proofs.YtggoccfddnpelaaGreatDoor.Es
namespace Go.Proofs.YtggoccfddnpelaaGreatDoor
open Go.ChangeShapes Go.WideShapes Go.ChangeAt Go.RowKit Go.Deep It
set_option maxRecDepth 100000
def Sh.EF:Enc Sh.F:=⟨2,fun x=>[.int .i64 x.1,.string x.2],fun _=>rfl,fun x u hu=>by
  simp at hu
  rcases hu with rfl | rfl <;> rfl⟩
theorem row_fields {T:TypeId} {n0:Nat} {w:World} {v:Value} {l:List Sh.F} (h:Row Sh.EF w n0 T v l):Ks.FieldsAt w.heap.size w v l:=by
  have hx:=h.at.open
  rcases h with ⟨rfl,rfl⟩ | ⟨g,cap,cur,rfl,hB,hh,h1,h2,h3,h4⟩
  · exact .inl ⟨_,_,rfl,rfl⟩
  · obtain ⟨ao, c', he, hm, hc⟩ := hx
    by_cases hp:0 < l.length
    · refine .inr ⟨g, 0, cap, rfl, (Array.getElem?_eq_some_iff.1 hh).1, hp, h1, h2, fun i hi => ?_⟩
      obtain ⟨b,off,hb,-,-,hu⟩:=hc i (l.getD i (0,.empty)) (by simp [List.getD,hi])
      injection he with e1 e2 e3
      rw [← e1] at hb
      injection hb with hb
      injection hb with b1 b2 b3
      subst b1 b2
      exact ⟨hu 0 _ rfl,hu 1 _ rfl⟩
    · have : l = [] := List.eq_nil_of_length_eq_zero (by omega)
      subst this
      exact .inl ⟨_,_,rfl,rfl⟩
theorem row_one {T:TypeId} {n0 B:Nat} {w:World} {f:Sh.F} (h:w.heap[B]? = some (.cells #[.int .i64 f.1,.string f.2] T (0,0))) (hn:n0<=B):Row Sh.EF w n0 T (.slice (some ⟨B,0,none⟩) 1 1) [f] :=
  .inr ⟨B,1,_,rfl,hn,h,by simp,by unfold maxLen;decide,by simp [Sh.EF],by simp [Enc.flat,Sh.EF]⟩
theorem Sh.map_take {α:Type} (f:α->Sh.F) {l:List α} {k:Nat} {x:α} (h:l[k]? = some x):(l.take (k + 1)).map f = (l.take k).map f ++ [f x]:=by
  obtain ⟨hk,rfl⟩:=List.getElem?_eq_some_iff.1 h
  rw [List.take_succ_eq_append_getElem hk,List.map_append]
  rfl
structure PB (T To:TypeId) (A n0:Nat) (o:Array Value) (l:List Sh.F) (v:Value) (w0 w:World):Prop where
  box:w.heap[A]? = some (.cells o To (0,0))
  row:Row Sh.EF w n0 T v l
  base:n0<=A
  bl:Below n0 w0 w
  st:n0<=w0.heap.size
section
variable {T To:TypeId} {A n0:Nat} {o:Array Value} {l:List Sh.F} {v:Value} {w0 w w':World}
theorem PB.sz (h:PB T To A n0 o l v w0 w):n0<=w.heap.size:=Nat.le_trans h.st h.bl.size
theorem PB.lt (h:PB T To A n0 o l v w0 w):A < w.heap.size:=(Array.getElem?_eq_some_iff.1 h.box).1
theorem PB.up (h:PB T To A n0 o l v w0 w) (hb:Below w.heap.size w w'):PB T To A n0 o l v w0 w':=⟨(hb.block _ h.lt).trans h.box,h.row.up hb,h.base,h.bl.trans (hb.mono h.sz),h.st⟩
theorem PB.al (h:PB T To A n0 o l v w0 w) (x:Obj):PB T To A n0 o l v w0 (w.alloc x):=h.up ((Below.refl _ _).alloc (Nat.le_refl _) _)
theorem PB.drew (h:PB T To A n0 o l v w0 w):PB T To A n0 o l v w0 w.drew:=⟨h.box,h.row,h.base,h.bl.drew,h.st⟩
theorem PB.other {b:Nat} {oo:Array Value} {Te:TypeId} (h:w.heap[b]? = some (.cells oo Te (0,0))) (hr:Row Sh.EF w n0 T v l) (hne:Te≠T) (hg:w.grownBy w' v.ownBlock):w'.heap[b]? = some (.cells oo Te (0,0)) :=
  (hg.block b (Array.getElem?_eq_some_iff.1 h).1 (fun e=>hr.off' h hne e.symm)).trans h
theorem PB.app {f:Sh.F} {v9:Value} (h:PB T To A n0 o l v w0 w) (hne:To≠T) (hr:Row Sh.EF w' n0 T v9 (l ++ [f])) (hg:w.grownBy w' v.ownBlock):PB T To A n0 o (l ++ [f]) v9 w0 w' :=
  ⟨PB.other h.box h.row hne hg,hr,h.base,h.bl.grown hg h.sz (fun j hj=>(h.row.lt j hj).1),h.st⟩
theorem PB.slice (h:PB T To A n0 o l v w0 w):∃ a m c,v = .slice a m c:=by
  obtain ⟨p,c,h⟩:=h.row.slice
  exact ⟨_,_,_,h⟩
end
theorem infoT:(Tryz.prog.info? 53).map (fun i=>(i.zero,i.size,i.bytes)) = some (some (.agg #[.int .i64 0,.string ⟨#[]⟩]),2,24):=by kernel_rfl
theorem infoU:(Tryz.prog.info? 64).map (fun i=>(i.zero,i.size,i.bytes)) = some (some (.agg #[.int .i64 0,.string ⟨#[]⟩]),2,24):=by kernel_rfl
end Go.Proofs.YtggoccfddnpelaaGreatDoor
