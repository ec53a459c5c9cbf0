import Derived.Test.YtcaejlalnjnifaaGreatShelf
import Derived.Test.YtcaejlalnjnifaaGreatR16
import Derived.Deep.CutRange
set_option maxHeartbeats 8000000
set_option maxRecDepth 2000
open Go.Value renaming slice->V,string->Ag,tuple->Ah,int->Ao,oneCell'->Aq
open Option renaming none->I,some->M
open Go.RowKit renaming Hid->H,Below->Ab
open Go.Addr renaming mk->Q
open Go.Obj renaming cells->J
open Go renaming World->Ad,Value->Aj,Calls->Ak,maxLen->Au
open Go.Ending renaming returned->Ae
open ByteArray renaming empty->Ap
open Go.IntKind renaming i64->Ar
open Bool renaming false->Av,true->Aw
open Go.Proofs.Tryz
open Go.ChangeShapes Go.WideShapes Go.ChangeAt Go.RowKit
namespace Go.Proofs.YtcaejlalnjnifaaGreat
theorem jQo {α:Type} (l:List α) (o:Nat) (v:α) (r:List α) (h:o<l.length):(l.set o v).take (o+1)++r++(l.set o v).drop (o+1+r.length)=l.take o++(v::r)++l.drop (o+(v::r).length):=by
 have e:l.set o v=l.take o++v::l.drop (o+1):=by rw[List.set_eq_take_append_cons_drop,A6 h]
 have hl:(l.take o).length=o:=by rw[Cu];omega
 have h1:(l.set o v).take (o+1)=l.take o++[v]:=by
  rw[e,List.take_append,hl,Dl (by omega)];simp
 have h2:(l.set o v).drop (o+1+r.length)=l.drop (o+(r.length+1)):=by
  rw[List.drop_set,A6 (by omega)];congr 1
  omega
 rw[h1,h2];simp
theorem XL {g:Nat} {t:TypeId}:∀ (vs:List Aj) (o:Nat) (w:Ad) (cs:Array Aj),Row w g t cs->o+vs.length<=cs.size->Row (w.setCells g o vs) g t (cs.toList.take o++vs++cs.toList.drop (o+vs.length)).toArray
 | [],o,w,cs,h,_=>by
  rw[World.setCells];simpa using h
 | v::r,o,w,cs,h,hl=>by
  rw[World.setCells];have a0:o+(r.length+1)<=cs.size:=hl;have h1:=XL r (o+1) _ _ (h.set o v) (by rw[Array.size_setIfInBounds];omega);rw[Array.toList_setIfInBounds,jQo _ _ _ _ (by rw[Cw];omega)] at h1;exact h1
theorem xZ {w:Ad} {B g t n cap:Nat} {cs:Array Aj} {xs:List Aj} (h:Row w g t cs) (hB:B<=g) (hc:cs.size=cap) (hn:n<=cap) (hm:cap<=Au) (hx:cs.toList.take n=xs):w.ownsRow B t 1 (V g n cap) n xs:=
 ⟨by rw[<-hx,Cu,Cw];omega,.inr ⟨g,cap,cs,rfl,hB,h,hn,hm,by omega,by rw[G4];exact hx⟩⟩
theorem Trn.sets {g:Nat} {F:Nat->Prop} (hF:F g):∀ (vs:List Aj) (o:Nat) (w:Ad),Trn w (w.setCells g o vs) F
 | [],_,w=>Trn.refl w F
 | v::r,o,w=>by
  rw[World.setCells];exact(Trn.set w o v hF).trans (Trn.sets hF r (o+1) _)
theorem Trn.drew (w:Ad) (F:Nat->Prop):Trn w w.drew F:=⟨rfl,rfl,rfl,Ay _,fun _ _ _=>rfl⟩
theorem Trn.drewN (w:Ad) (k:Nat) (F:Nat->Prop):Trn w (w.drewN k) F:=⟨rfl,rfl,rfl,Ay _,fun _ _ _=>rfl⟩
theorem Trn.alloc (w:Ad) (o:Obj) (F:Nat->Prop):Trn w (w.alloc o) F:=Trn.ofBelow F ((Az _ _).alloc (Ay _) _)
theorem jIg {α:Type} (L Z:List α) (x:α) (k N:Nat) (hZ:L.take N=Z) (hN:N+1<=L.length) (hk:k<N):((L.take (k+1)++Z.drop k++L.drop (k+1+(Z.drop k).length)).take k++[x]++(L.take (k+1)++Z.drop k++L.drop (k+1+(Z.drop k).length)).drop (k+1)).take (N+1)=Z.take k++x::Z.drop k/\((L.take (k+1)++Z.drop k++L.drop (k+1+(Z.drop k).length)).take k++[x]++(L.take (k+1)++Z.drop k++L.drop (k+1+(Z.drop k).length)).drop (k+1)).length=L.length:=by
 have hl:Z.length=N:=by rw[<-hZ,Cu];omega
 have h0:(Z.drop k).length=N-k:=by rw[Df,hl]
 have a0:(L.take (k+1)).length=k+1:=by rw[Cu];omega
 have h1:(L.take (k+1)++Z.drop k++L.drop (k+1+(Z.drop k).length)).take k=Z.take k:=by
  rw[Ge,List.take_append_of_le_length (by omega),List.take_take,<-hZ,List.take_take];congr 1
  omega
 have h2:(L.take (k+1)++Z.drop k++L.drop (k+1+(Z.drop k).length)).drop (k+1)=Z.drop k++L.drop (N+1):=by
  rw[Ge,List.drop_left' a0,h0];congr 2
  omega
 rw[h1,h2];constructor
 .have e:Z.take k++[x]++(Z.drop k++L.drop (N+1))=(Z.take k++x::Z.drop k)++L.drop (N+1):=by simp
  rw[e,Gc (by simp[List.length_take,List.length_drop,hl];omega)]
 .simp[List.length_take,List.length_drop,hl];omega
theorem jJg {α:Type} (Z:List α) (x z:α) (k N c:Nat) (hl:Z.length=N) (hk:k<N) (A:List α) (hA:A=Z.take k++List.replicate (N+1-k) z++List.replicate (c-(N+1)) z) (hc:N+1<=c):((A.take k++[x]++A.drop (k+1)).take (k+1)++Z.drop k++(A.take k++[x]++A.drop (k+1)).drop (k+1+(Z.drop k).length)).take (N+1)=Z.take k++x::Z.drop k/\((A.take k++[x]++A.drop (k+1)).take (k+1)++Z.drop k++(A.take k++[x]++A.drop (k+1)).drop (k+1+(Z.drop k).length)).length=c/\A.length=c:=by
 have h0:(Z.drop k).length=N-k:=by rw[Df,hl]
 have ht:(Z.take k).length=k:=by rw[Cu];omega
 have a0:A.length=c:=by rw[hA];simp[ht];omega
 have h1:A.take k=Z.take k:=by rw[hA,Ge,Gc ht]
 have h2:(A.take k++[x]++A.drop (k+1)).take (k+1)=Z.take k++[x]:=by
  rw[h1,Gc (by simp[ht])]
 have h3:(A.take k++[x]++A.drop (k+1)).drop (k+1+(Z.drop k).length)=A.drop (N+1):=by
  rw[h1,<-List.drop_drop,List.drop_left' (by simp[ht]),List.drop_drop,h0];congr 1
  omega
 rw[h2,h3];refine⟨?_,?_,a0⟩
 .have e:Z.take k++[x]++Z.drop k++A.drop (N+1)=(Z.take k++x::Z.drop k)++A.drop (N+1):=by simp
  rw[e,Gc (by simp[ht,h0];omega)]
 .simp[ht,h0,a0];omega
theorem jPz (B:Nat) (a:OA) (zs:List Int) (c:Nat) (x:Int) (k vb:Nat) (w:Ad) (h:w.ownsRow B 3 1 (V a zs.length c) zs.length (zs.map (Ao Ar))) (hB:B<=w) (hk:k<=zs.length) (hn:zs.length<=1048576) (hv:Row w vb 3 #[x]) (u0:∀ y,a=M y->vb≠y.block):Ak prog 180 #[V a zs.length c,(k:Int),V vb 1 1] w fun e w'=>∃ g' c',e=Ae (V (Q g' 0 I) (zs.length+1) c')/\w'.ownsRow B 3 1 (V (Q g' 0 I) (zs.length+1) c') (zs.length+1) ((zs.take k++x::zs.drop k).map (Ao Ar))/\Trn w w' (fun y=>a=M (Q y 0 I))/\(a=M (Q g' 0 I)\/w.1.size<=g'):=by
 have f0:∀ j v,[Ao Ar x][j]?=M v->w.cell? (Q vb (0+j) I)=M v:=by
  intro j v hj;rw[Bt,hv.cell j];simpa using hj
 have d0:∀ v∈[Ao Ar x],v.oneCell'=Aw:=by simp[Aq]
 have o0:∀ v∈zs.map (Ao Ar),v.oneCell'=Aw:=by simp[Aq]
 have w0:Au=9223372036854775807\/Au<=9223372036854775807:=by unfold Au;omega
 have zc:(Ao Ar 0).cells=#[Ao Ar 0]:=rfl;have zero:∀ q,(Builtin.zeroCells (Ao Ar 0).cells q).toList=List.replicate q (Ao Ar 0):=fun q=>by
  refine List.ext_getElem (by simp[Builtin.zeroCells,zc]) fun i h1 h2=>?_
  simp[Builtin.zeroCells,zc,Nat.mod_one]
 rcases h.2 with ⟨e,h0⟩|⟨g,cap,a0,e,p0,hr,x0,q0,y0,n0⟩
 .have hz:zs=[]:=Ez.1 h0;subst hz;simp only[Ek] at e;obtain⟨rfl,_,rfl⟩:=e;obtain rfl:k=0:=by simp at hk;exact hk
  refine(Any2.slices_Insert_int_end_grow laysNm221 I 0 0 vb 0 1 1 [] [x] w (by omega) (by omega) (by omega) (by omega) rfl rfl (fun _=>rfl) (fun _ e=>by cases e) f0 d0).mono ?_;rintro e w' ⟨rfl,rfl⟩;have c0:=grownCap_ge w (0+1) 0 3;refine⟨w.1.size,_,rfl,xZ (Row.new w.drew _ _) hB ?_ c0 (grownCap_le_maxLen w (0+1) 0 3 (by unfold Au;omega)) ?_,(Trn.drew w _).trans (Trn.alloc _ _ _),.inr (Ay _)⟩
  .have hz:=zero (grownCap w (0+1) 0 3-(0+1));have hs:(Builtin.zeroCells (Ao Ar 0).cells (grownCap w (0+1) 0 3-(0+1))).size=grownCap w (0+1) 0 3-(0+1):=by rw[<-Cw,hz,List.length_replicate]
   rw[Array.size_append];show 1+(Builtin.zeroCells (Ao Ar 0).cells (grownCap w (0+1) 0 3-(0+1))).size=grownCap w (0+1) 0 3;rw[hs];omega
  .rw[Fp];rfl
 .simp only[Ek] at e;obtain⟨rfl,_,rfl⟩:=e;have e0:a0.size=c:=by omega
  rw[G4] at n0;have hL:a0.toList.length=c:=by rw[Cw];exact e0
  have k0:∀ j v,(zs.map (Ao Ar))[j]?=M v->w.cell? (Q g (0+j) I)=M v:=by
   intro j v hj;have v0:j<zs.length:=by have:=(Ca.1 hj).1;simpa using this
   rw[Bt,Br h j (by omega)];exact hj
  have b0:∀ j,j<c->(w.cell? (Q g j I)).isSome=Aw:=fun j hj=>by
   rw[show w.cell? (Q g j I)=a0[j]? from Row.cell (g:=g) (t:=3) (cs:=a0) hr j];simp[e0,hj]
  have r0:∀ j,w.frozen? (Q g j I)=Av:=fun j=>Row.free (g:=g) (t:=3) (cs:=a0) hr j
  by_cases hke:k=zs.length
  .subst hke;have ez:zs.take zs.length++x::zs.drop zs.length=zs++[x]:=by simp
   rw[ez];by_cases hroom:zs.length+1<=c
   .refine(Any2.slices_Insert_int_end_room laysNm221 g 0 zs.length c vb 0 1 1 [x] w (by omega) hroom (by omega) rfl (fun j hj=>by rw[Bt];exact b0 _ (by omega)) (fun j _=>r0 _) f0 d0).mono ?_;rintro e w' ⟨rfl,rfl⟩;have hR:=XL [Ao Ar x] (0+zs.length) w a0 hr (by simp;omega);refine⟨g,c,rfl,xZ hR p0 ?_ hroom q0 ?_,Trn.sets (F:=fun y=>(M (Q g 0 I):OA)=M (Q y 0 I)) rfl _ _ _,.inl rfl⟩
    .simp[hL];omega
    .have e1:a0.toList.take (0+zs.length)=zs.map (Ao Ar):=by rw[Bt];exact n0
     show List.take (zs.length+1) (a0.toList.take (0+zs.length)++[Ao Ar x]++a0.toList.drop (0+zs.length+1))=_;rw[e1,Gc (by simp)];simp
   .have t0:c=zs.length:=by omega
    refine(Any2.slices_Insert_int_end_grow laysNm221 (Q g 0 I) zs.length c vb 0 1 1 (zs.map (Ao Ar)) [x] w (by omega) (by omega) (by omega) (by omega) (by simp) rfl (fun e=>by cases e) (fun b e j v hj=>by cases e;rw[Addr.add_lit];exact k0 j v hj) f0 d0).mono ?_;rintro e w' ⟨rfl,rfl⟩;have c0:=grownCap_ge w (zs.length+1) c 3;refine⟨w.1.size,_,rfl,xZ (Row.new w.drew _ _) hB ?_ c0 (grownCap_le_maxLen w (zs.length+1) c 3 (by unfold Au;omega)) ?_,(Trn.drew w _).trans (Trn.alloc _ _ _),.inr (Ay _)⟩
    .have hz:=zero (grownCap w (zs.length+1) c 3-(zs.length+1));have hs:(Builtin.zeroCells (Ao Ar 0).cells (grownCap w (zs.length+1) c 3-(zs.length+1))).size=grownCap w (zs.length+1) c 3-(zs.length+1):=by rw[<-Cw,hz,List.length_replicate]
     rw[Array.size_append];have h2:(zs.map (Ao Ar)++[Ao Ar x]).toArray.size=zs.length+1:=by simp
     rw[h2];show zs.length+1+(Builtin.zeroCells (Ao Ar 0).cells (grownCap w (zs.length+1) c 3-(zs.length+1))).size=grownCap w (zs.length+1) c 3;rw[hs];omega
    .rw[Fp,Dw];exact Gc (by simp)
  .have g0:k<zs.length:=by omega
   have em:(zs.take k++x::zs.drop k).map (Ao Ar)=(zs.map (Ao Ar)).take k++Ao Ar x::(zs.map (Ao Ar)).drop k:=by simp[List.map_take,List.map_drop]
   rw[em];by_cases hroom:zs.length+1<=c
   .refine(Any2.slices_Insert_int_shift laysNm221 g 0 zs.length c k vb 0 1 1 (zs.map (Ao Ar)) [x] w g0 (by omega) hroom (by omega) (u0 _ rfl) (by simp) rfl k0 (fun j hj=>by rw[Bt];exact b0 _ (by omega)) (fun j _=>r0 _) f0 o0 d0 3 3 1 c (by simp[World.shape?,show w.1[vb]?=M (J #[x] 3) from hv]) (by simp[World.shape?,hr,e0]) (by omega) (hv.free 0) (hv.free 1)).mono ?_;rintro e w' ⟨rfl,rfl⟩;rw[Bt,Bt];obtain⟨q1,q2⟩:=jIg a0.toList (zs.map (Ao Ar)) (Ao Ar x) k zs.length n0 (by omega) g0;have m0:((zs.map (Ao Ar)).drop k).length=zs.length-k:=by simp
    have i0:=XL ((zs.map (Ao Ar)).drop k) (k+1) w.drew a0 hr (by rw[m0];omega);have j0:=XL [Ao Ar x] k _ _ i0 (by rw[<-Cw];simp[List.length_take,List.length_drop,hL];omega);refine⟨g,c,rfl,xZ j0 p0 ?_ hroom q0 ?_,((Trn.drew w _).trans (Trn.sets (F:=fun y=>(M (Q g 0 I):OA)=M (Q y 0 I)) rfl _ _ _)).trans (Trn.sets (F:=fun y=>(M (Q g 0 I):OA)=M (Q y 0 I)) rfl _ _ _),.inl rfl⟩
    .rw[<-Cw];exact q2.trans hL
    .exact q1
   .have t0:c=zs.length:=by omega
    refine(Any2.slices_Insert_int_grow laysNm221 g 0 zs.length c k vb 0 1 1 (zs.map (Ao Ar)) [x] w g0 (by omega) (by omega) (by omega) (by omega) (by simp) rfl k0 f0 o0 d0).mono ?_;rintro e w' ⟨rfl,rfl⟩;have c0:=grownCap_ge w (zs.length+1) c 3;obtain⟨q1,q2,q3⟩:=jJg (zs.map (Ao Ar)) (Ao Ar x) (Ao Ar 0) k zs.length (grownCap w (zs.length+1) c 3) (by simp) g0 _ rfl c0;have eA:((zs.map (Ao Ar)).take k).toArray++Builtin.zeroCells (Ao Ar 0).cells (zs.length+1-k)++Builtin.zeroCells (Ao Ar 0).cells (grownCap w (zs.length+1) c 3-(zs.length+1))=((zs.map (Ao Ar)).take k++List.replicate (zs.length+1-k) (Ao Ar 0)++List.replicate (grownCap w (zs.length+1) c 3-(zs.length+1)) (Ao Ar 0)).toArray:=by
     apply Array.ext'
     rw[Fp,Fp,zero,zero]
    have s0:=Row.new w (((zs.map (Ao Ar)).take k).toArray++Builtin.zeroCells (Ao Ar 0).cells (zs.length+1-k)++Builtin.zeroCells (Ao Ar 0).cells (grownCap w (zs.length+1) c 3-(zs.length+1))) 3;have i0:=XL [Ao Ar x] k _ _ s0.drew (by rw[eA,<-Cw,E7,q3];simp;omega);have m0:((zs.map (Ao Ar)).drop k).length=zs.length-k:=by simp
    have j0:=XL ((zs.map (Ao Ar)).drop k) (k+1) _ _ i0.drew (by rw[<-Cw,E7,m0,eA];simp[List.length_take,List.length_drop];omega);refine⟨w.1.size,_,rfl,xZ j0 hB ?_ c0 (grownCap_le_maxLen w (zs.length+1) c 3 (by unfold Au;omega)) ?_,?_,.inr (Ay _)⟩
    .rw[<-Cw,eA];exact q2
    .rw[eA];exact q1
    .have b1:Ab w w (w.alloc (J (((zs.map (Ao Ar)).take k).toArray++Builtin.zeroCells (Ao Ar 0).cells (zs.length+1-k)++Builtin.zeroCells (Ao Ar 0).cells (grownCap w (zs.length+1) c 3-(zs.length+1))) 3)):=(Az _ _).alloc (Ay _) _;refine Trn.ofBelow _ ?_;exact(b1.trans ((Trn.drew _ (fun y=>y=w.1.size)).below (fun g e=>Gv e.symm) b1.size)).trans ((((Trn.sets (F:=fun y=>y=w.1.size) rfl _ _ _).trans (Trn.drew _ _)).trans (Trn.sets (F:=fun y=>y=w.1.size) rfl _ _ _)).below (fun g e=>Gv e.symm) b1.size)
theorem JT (r:BA) (k n i:Int) (b:BA) (a:OA) (m c:Nat) (S:Nat->BA) (w:Ad) (h:jL w a m S) (hm:m<=1048576) (hr:r.size<=1048576) (hb:b.size<=1048576) (hS:∀ i,i<m->(S i).size<=1048576):Ak prog 121 #[pcV r k n i b (V a m c)] w fun e w'=>∃ g,e=Ae (pcV r k n i b (V (Q g 0 I) m m))/\jI w' w (Q g 0 I) m m S/\Ab w w w':=by
 obtain⟨i0,hi,k2,m2,n2⟩:=Cg Tryz.infoStr;obtain⟨A,HA⟩:=nmH w.1.size;obtain⟨D,HD⟩:=nmH (w.1.size+1);obtain⟨w0,m0⟩:=nmH ((w.alloc (J (pcC r k n i b (V a m c)) 29)).alloc (J #[Zs,(),(),(),Zs,V I 0 0] 29));have RA:=xS m0 HA;have RD:=zR m0 HD;have n1:=bl2 m0;have e1:H (Ab w w w0):=n1;have a0:H (A≠D/\w.1.size<=A/\w.1.size<=D):=⟨by have:=HA.out;have:=HD.out;omega,by have:=HA.out;omega,by have:=HD.out;omega⟩;have KH:H (jL w a m S):=h;have j1:H (∀ W,CB 120 #[r] W r):=fun W=>qO r W hr
 have i1:H (∀ W,CB 120 #[b] W b):=fun W=>qO b W hb
 have g2:H (∀ i,i<m->∀ W,CB 120 #[(S i)] W (S i)):=fun i hi W=>qO (S i) W (hS i hi)
 clear h n1 hr hb hS;go_enter func121,ntmps121
 go_wp2_with fail
 rw[<-m0.out,<-HD.out,<-HA.out];go_cut [] from 6 to 13 (fun wx=>H (Row wx A 29 (pcC r k n i b (V a m c))/\Row wx D 29 #[Zs,(),(),(),Zs,V I 0 0]/\Ab w w wx))
 case first=>
  have lA:=RA.lt;have lD:=RD.lt;obtain⟨q0,q1,q2,q3,q4,q5⟩:=RA.c6 0 1 2 3 4 5;have f0:=RA.free 0;have f4:=RA.free 4;simp at q0 q1 q2 q3 q4 q5;have n0:H (∀ W,Ab w0 w0 W->Row W A 29 (pcC r k n i b (V a m c))/\Row W D 29 #[Zs,(),(),(),Zs,V I 0 0]/\Ab w w W):=fun W hW=>⟨RA.below hW lA,RD.below hW lD,jA e1 hW⟩
  have KQ:H (∀ W,Ab w0 w0 W->W.cell? A=M (Ag r)/\W.cell? (Q A 1 I)=M (Ao Ar k)/\W.cell? (Q A 2 I)=M (Ao Ar n)/\W.cell? (Q A 3 I)=M (Ao Ar i)/\W.cell? (Q A 4 I)=M (Ag b)/\W.cell? (Q A 5 I)=M (V a m c)):=fun W hW=>by
   have:=(n0 W hW).1
   obtain⟨z0,z1,z2,z3,z4,z5⟩:=this.c6 0 1 2 3 4 5;simp at z0 z1 z2 z3 z4 z5;exact⟨z0,z1,z2,z3,z4,z5⟩
  have KF:H (∀ W,Ab w0 w0 W->W.frozen? A=Av/\W.frozen? (Q A 4 I)=Av):=fun W hW=>⟨(n0 W hW).1.free 0,(n0 W hW).1.free 4⟩
  go_region_held3 (fun w'=>w'.cell? (Q A 0 I)=M (Ag r)/\w'.cell? (Q A 1 I)=M (Ao Ar k)/\w'.cell? (Q A 2 I)=M (Ao Ar n)/\w'.cell? (Q A 3 I)=M (Ao Ar i)/\w'.cell? (Q A 4 I)=M (Ag b)/\w'.cell? (Q A 5 I)=M (V a m c)) (go_keep) ((first|(guard_hyp d1;go_at_call 120;refine Ax (i1 _) ?_;rintro e w8 ⟨rfl,b8⟩;have o0:=jA m1 b8;obtain⟨t0,t1,t2,t3,t4,t5⟩:=KQ _ o0;have g0:=(KF _ o0).1;have g4:=(KF _ o0).2;have h0:=(n0 _ o0).1.set 0 r;have j0:=h0.set 4 b;have s0:=h0.cell 0;have v0:=j0.cell 0;have s1:=h0.cell 1;have v1:=j0.cell 1;have s2:=h0.cell 2;have v2:=j0.cell 2;have s3:=h0.cell 3;have v3:=j0.cell 3;have s4:=h0.cell 4;have v4:=j0.cell 4;have s5:=h0.cell 5;have v5:=j0.cell 5;simp at s0 v0 s1 v1 s2 v2 s3 v3 s4 v4 s5 v5;clear h0 j0)|(go_at_call 120;refine Ax (j1 _) ?_;rintro e w7 ⟨rfl,b7'⟩;have m1:=jC b7';clear b7';have d1:H True:=trivial;obtain⟨p0,p1,p2,p3,p4,p5⟩:=KQ _ m1)))
  all_goals
   obtain⟨i2,j2,B8⟩:=n0 _ o0;go_wp2_with fail
   go_meet
   exact⟨(i2.set 0 _).set 4 _,(j2.other 0 _ (Cj a0.1)).other 4 _ (Cj a0.1),(B8.setCell a0.2.1 _).setCell a0.2.1 _⟩
 obtain⟨a1,k1,Bc⟩:=hcut.out;clear hcut RA RD e1 m0 j1 i1;have RA:H (Row wc A 29 (pcC r k n i b (V a m c))):=a1;have RD:H (Row wc D 29 #[Zs,(),(),(),Zs,V I 0 0]):=k1;have u0:H (Ab w w wc):=Bc;have x5:=a1.cell 5;simp at x5;obtain⟨g,HG⟩:=nmH wc.1.size;clear a1 k1 Bc;go_wp2_with (at_make;refine Cv _ rfl _ _ 27 rfl wc 9 i0 Ap 1 C3 hi k2 m2 Ar Ar _ _ m rfl rfl rfl rfl (by rw[n2];omega) (by unfold Au;omega) (Ay _) ?_;intro w1 c0 r0;have ho1:jI w1 wc (Q wc 0 I) m m (fun i=>if i<0 then S i else Ap):=(by have e:sL (fun i=>if i<0 then S i else Ap) m=List.replicate m (Ag Ap):=(by rw[<-ZL];exact xR (fun i _=>by simp));unfold jI;rw[e];simpa [Value.cells,Do] using c0);have hb1:Ab wc wc w1:=(Az _ _).grown r0 (Ay _) (by simp);have y5:=(hb1.cell (p:=Q A 5 I) RA.lt).trans x5)
 rw[<-HG.out] at ho1;rw[<-HG.out];clear c0 r0;go_loopw [21] (fun vi wr=>∃ q:Nat,q<=m/\vi=Ao Ar (q:Int)/\H (jI wr g (Q g 0 I) m m (fun i=>if i<q then S i else Ap))/\Ab wc wc wr) (fun vi _=>m-(intOf vi).toNat)
 case atStart=>exact⟨0,Bi _,rfl,ho1,hb1⟩
 case round=>
  obtain⟨q,hq,rfl,c0,b0⟩:=hrel;clear ho1 hb1 y5 x5;by_cases hlt:q<m
  .obtain⟨b',a3,rfl,hc⟩:=(KH.below u0).below b0 q hlt;have r2:(q:Int)<(m:Int):=by omega
   have g1:H _:=g2 q hlt;obtain⟨s,HS⟩:=nnH (S q);rw[HS.out] at hc g1;have a2:H (Ab wc wc wr):=b0;clear b0;go_wp2_with fail
   refine CM (g1 _) fun w2 b2=>?_
   have e0:jI w2 g (Q g 0 I) m m (fun i=>if i<q then S i else Ap):=c0.below b2;obtain⟨old,u2⟩:∃ v,w2.cell? (Q g q I)=M v:=by
    rw[Br e0 q (by omega)];exact⟨_,zB _ _ _ hlt⟩
   have e3:=B0 e0 q;have c1:=Dh e0 q s;rw[jA8 _ _ _ _ hlt] at c1;have HO:H (jI (w2.setCell (Q g q I) s) g (Q g 0 I) m m (fun i=>if i<q+1 then S i else Ap)):=jI.congr c1.1 (fun i _=>by
    by_cases e:i=q
    .simp[e,HS.out]
    .by_cases e2:i<q
     .simp[e,e2,show i<q+1 by omega]
     .simp[e,e2,show ¬ i<q+1 by omega])
   have o1:Ab wc wc (w2.setCell (Q g q I) s):=(jA a2 b2).setCell (by rw[HG.out];exact Ay _) _;have KNE:H _:=o1;clear c1 e0 c0 b2 o1 hc;go_wp2
   go_roundw
   case rel=>exact⟨q+1,by omega,by go_num,HO,KNE.out⟩
   case measure=>simp[intOf];omega
  .obtain rfl:q=m:=by omega
   have HO:jI wr g (Q g 0 I) q q S:=c0.congr (fun i hi=>A6 hi);have b1:=RA.below b0 RA.lt;have d0:=RD.below b0 RD.lt;have k0:A<g/\D<g:=by rw[HG.out];exact⟨RA.lt,RD.lt⟩
   have u1:H (Row (((((((wr.setCell (Q A 5 I) (V (Q g 0 I) q q)).setCell (Q D 0 I) r).setCell (Q D 1 I) k).setCell (Q D 2 I) n).setCell (Q D 3 I) (Ao Ar i)).setCell (Q D 4 I) b).setCell (Q D 5 I) (V (Q g 0 I) q q)) D 29 (pcC r k n i b (V (Q g 0 I) q q))):=((((((d0.other 5 _ (Cj a0.1)).set 0 _).set 1 _).set 2 _).set 3 _).set 4 _).set 5 _;have HO3:H (jI (((((((wr.setCell (Q A 5 I) (V (Q g 0 I) q q)).setCell (Q D 0 I) r).setCell (Q D 1 I) k).setCell (Q D 2 I) n).setCell (Q D 3 I) (Ao Ar i)).setCell (Q D 4 I) b).setCell (Q D 5 I) (V (Q g 0 I) q q)) w (Q g 0 I) q q S):=jI.base ((((((((HO.setFar k0.1).setFar k0.2).setFar k0.2).setFar k0.2).setFar k0.2).setFar k0.2).setFar k0.2)) (by rw[HG.out];exact u0.size);have r1:H (Ab w w (((((((wr.setCell (Q A 5 I) (V (Q g 0 I) q q)).setCell (Q D 0 I) r).setCell (Q D 1 I) k).setCell (Q D 2 I) n).setCell (Q D 3 I) (Ao Ar i)).setCell (Q D 4 I) b).setCell (Q D 5 I) (V (Q g 0 I) q q))):=(((((((jA u0 b0).setCell a0.2.1 _).setCell a0.2.2 _).setCell a0.2.2 _).setCell a0.2.2 _).setCell a0.2.2 _).setCell a0.2.2 _).setCell a0.2.2 _;obtain⟨x0,x1,x2,x3,x4,x5⟩:=b1.c6 0 1 2 3 4 5;obtain⟨y0,y1,y2,y3,y4,y5⟩:=d0.c6 0 1 2 3 4 5;have fA:=b1.free 5;have f0:=d0.free 0;have f1:=d0.free 1;have f2:=d0.free 2;have f3:=d0.free 3;have f4:=d0.free 4;have f5:=d0.free 5;simp at x0 x1 x2 x3 x4 x5 y0 y1 y2 y3 y4 y5;have b3:¬ D=A:=fun e=>a0.1 e.symm
   have o2:¬ A=D:=a0.1;clear b1 d0 HO b0 c0;go_wp2
   refine B7 (v:=pcV r k n i b (V (Q g 0 I) q q)) (by
    obtain⟨p0,p1,p2,p3,p4,p5⟩:=u1.c6 0 1 2 3 4 5;simp at p0 p1 p2 p3 p4 p5;simp[results,results121,go_sem,p0,p1,p2,p3,p4,p5]) rfl ⟨g,rfl,HO3,r1⟩
def jBn (zs:List Int) (x:Int):Nat:=zs.countP (.<x)
def xM (zs:List Int) (x:Int):List Int:=if x = -1\/x∈zs then zs else zs.take (jBn zs x)++x::zs.drop (jBn zs x)
theorem jI7 (zs:List Int) (x:Int):jBn zs x<=zs.length:=List.countP_le_length
theorem jGo (zs:List Int) (x:Int):(xM zs x).length<=zs.length+1:=by
 unfold xM;have:=jI7 zs x
 split
 .omega
 .simp[List.length_take,List.length_drop];omega
theorem jIf (a:OA) (c:Nat) (zs:List Int) (x:Int) (w:Ad) (h:jH w a zs.length zs) (hn:zs.length<=1048576) (hs:zs.Pairwise (.<=.)):Ak prog 179 #[V a zs.length c,x] w fun e w'=>e=Ae (Ah #[Ao Ar (jBn zs x:Nat),(zs.contains x)])/\∃ q,w'=w.drewN q:=by
 cases zs with
 | nil=>
  go_enter func179,ntmps179
  go_wp2
  go_loopw [7,8] (fun vi vj wr=>vi=Ao Ar 0/\vj=Ao Ar 0/\wr=w) (fun _ _ _=>0)
  case atStart=>exact⟨rfl,rfl,rfl⟩
  case round=>
   obtain⟨rfl,rfl,hw⟩:=hrel;obtain rfl:=hw.symm;go_wp2
   go_ret2
   exact⟨rfl,0,rfl⟩
 | cons z r=>
  obtain⟨b,off,rfl,_⟩:=h.2 0 (by simp);have hc:∀ j,j<(z::r).length->w.cell? (Q b (off+j) I)=M (Ao Ar ((z::r).getD j 0)):=fun j hj=>by
   obtain⟨b',a0,e,hc⟩:=h.2 j hj;cases e;exact hc
  have et:(z::r).take (z::r).length=z::r:=List.take_length;refine(slices_BinarySearch_int b off (z::r).length c (z::r) x w (Ay _) (by omega) hc (by rw[et];exact hs)).mono ?_;rintro e w' ⟨rfl,hw⟩;rw[et];exact⟨rfl,hw⟩
theorem ZA (B:Nat) (a:OA) (c:Nat) (zs:List Int) (x:Int) (F:Nat->Prop) (w:Ad) (h:Ow w B (inD zs) (V a zs.length c) F) (hB:B<=w) (hn:zs.length<=1048576) (hs:zs.Pairwise (.<=.)):Ak prog 154 #[V a zs.length c,x] w fun e w'=>∃ a' c',e=Ae (V a' (xM zs x).length c')/\Ow w' B (inD (xM zs x)) (V a' (xM zs x).length c') (fun y=>F y\/w.1.size<=y)/\Trn w w' F:=by
 obtain⟨a1,c1,e1,ho,hF⟩:=JX h;simp only[Ek,true_and] at e1;obtain⟨rfl,rfl⟩:=e1;have KS:H _:=jIf a c zs x w (qL.1 h.rd) hn hs;obtain⟨k,HK⟩:=nnH (jBn zs x);obtain⟨fd,a0⟩:=nnH (zs.contains x);obtain⟨N,HN⟩:=nnH zs.length;have KH:H (Ow w B (inD zs) (V a zs.length c) F):=h;rw[HK.out,a0.out,HN.out] at KS;rw[HN.out];clear h;by_cases hp:x = -1\/x∈zs
 .have ep:H (xM zs x=zs):=A6 hp;rw[ep.out,HN.out];have KZ:H (∀ q,Ow (w.drewN q) B (inD zs) (V a N c) (fun y=>F y\/w.1.size<=y)/\Trn w (w.drewN q) F):=fun q=>⟨by rw[<-HN.out];exact(KH.turned (Trn.drewN w q (fun _=>False)) (fun _ _ h=>h)).mono (fun _ h=>.inl h),Trn.drewN w q F⟩
  have hd:fd=Aw\/(fd=Av/\x = -1):=by
   rw[<-a0.out];rcases hp with e|e
   .by_cases hx:x∈zs
    .exact .inl (by simpa using hx)
    .exact .inr ⟨by simpa using hx,e⟩
   .exact .inl (by simpa using e)
  rcases hd with rfl|⟨rfl,rfl⟩;clear hp;rotate_left;clear hp;rotate_left;all_goals
   go_enter func154,ntmps154
   go_wp2_with fail
   refine Ax KS.out ?_;rintro e w1 ⟨rfl,q,rfl⟩;go_wp2
   go_ret
   exact⟨a,c,rfl,(KZ q).1,(KZ q).2⟩
 .have d0:¬ x = -1:=fun e=>hp (.inl e)
  have b0:x∉zs:=fun e=>hp (.inr e)
  obtain rfl:fd=Av:=by rw[<-a0.out];simpa using b0
  have ep:xM zs x=zs.take k++x::zs.drop k:=by rw[<-HK.out];exact A5 hp
  have hk:k<=zs.length:=by rw[<-HK.out];exact jI7 zs x
  obtain⟨L,HL⟩:=nnH (xM zs x);have hl:L.length=N+1:=by rw[<-HL.out,ep,<-HN.out];simp[List.length_take,List.length_drop];omega
  rw[HL.out,hl];have e0:(x==-1)=Av:=by simpa using d0
  have KI:H (∀ q,Ak prog 180 #[V a N c,(k:Int),V (Q w 0 I) 1 1] ((w.drewN q).alloc (J #[x] 3)) fun e w'=>∃ g' c',e=Ae (V (Q g' 0 I) (N+1) c')/\Ow w' B (inD L) (V (Q g' 0 I) (N+1) c') (fun y=>F y\/w.1.size<=y)/\Trn w w' F):=fun q=>by
   have bd:Ab w w (w.drewN q):=⟨rfl,rfl,rfl,Ay _,fun _ _=>rfl⟩;have bq:Ab w w ((w.drewN q).alloc (J #[x] 3)):=bd.alloc (Ay _) _;have:=jPz B a zs c x k w ((w.drewN q).alloc (J #[x] 3)) (jE ho bq) (By hB bq.size) hk hn (Row.new (w.drewN q) _ _) (fun y e=>by
    have:=(A0 ho y.block (by rw[e];rfl)).2
    omega)
   rw[HN.out,<-ep,HL.out] at this;refine Ax this ?_;rintro e w' ⟨g',c',rfl,o',t',hg⟩;refine⟨g',c',rfl,?_,(Trn.ofBelow F bq).trans (t'.mono (fun y e=>hF _ e))⟩;rw[<-hl] at o' |-;refine vV o' (fun y e=>?_);cases e;rcases hg with hg|hg
   .exact .inl (hF _ hg)
   .exact .inr (By bq.size hg)
  clear hp b0 ep hk hl ho hF;go_enter func154,ntmps154
  go_wp2_with fail
  refine Ax KS.out ?_;rintro e w1 ⟨rfl,q,rfl⟩;have c0:H _:=KI q;clear KI;go_wp2_with fail
  refine Ax c0.out ?_;rintro e w2 ⟨g',c',rfl,o',t'⟩;go_wp2
  go_ret
  exact⟨_,c',rfl,o',t'⟩
end Go.Proofs.YtcaejlalnjnifaaGreat
