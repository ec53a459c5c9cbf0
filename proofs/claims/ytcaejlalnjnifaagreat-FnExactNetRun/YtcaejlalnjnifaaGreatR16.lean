import Derived.Test.YtcaejlalnjnifaaGreatR13
import Derived.Test.YtcaejlalnjnifaaGreatR15
import Derived.Test.YtcaejlalnjnifaaGreatR14
set_option maxHeartbeats 8000000
set_option maxRecDepth 2000
open Go.Value renaming slice->V,pointer->Af,string->Ag,tuple->Ah,agg->Ai,int->Ao,oneCell'->Aq
open Option renaming none->I,some->M
open Go.RowKit renaming Hid->H,Below->Ab
open Go.Addr renaming mk->Q
open Go renaming undef->O,World->Ad,Value->Aj,Calls->Ak,Addr->Al,maxLen->Au
open Go.Obj renaming cells->J
open Go.Ending renaming returned->Ae
open ByteArray renaming empty->Ap
open Go.IntKind renaming i64->Ar
open Bool renaming false->Av,true->Aw
open Go.Proofs.Tryz
open Go.ChangeShapes Go.WideShapes Go.ChangeAt Go.RowKit
namespace Go.Proofs.YtcaejlalnjnifaaGreat
theorem jKq (k:Int) (ab:OA) (n cb:Nat) (S:Nat->BA) (G:Nat) (L:Nat->BA) (rt:BA) (i:Nat) (w:Ad) (h:jL w ab n S) (hg:jL w G n L) (hi:i<n) (hn:n<=64) (hL:∀ i,(L i).size<=16) (hr:rt.size<=1048576):Ak prog 211 #[Ai #[k,V ab n cb,V G n n,rt],(i:Int)] w fun e w'=>∃ v,e=Ae (pcV rt k (n:Int) (i:Int) (S i) v)/\jCp w w' v (pfR n L (i:Int)) (pfF n L (i:Int))/\Ab w w w':=by
 obtain⟨B,HB⟩:=nmH w.1.size;obtain⟨w0,j0⟩:=nmH ((w.alloc (J #[k,V ab n cb,V G n n,rt] 237)).alloc (J #[Zs,(),(),(),Zs,V I 0 0] 29));have n0:=xS j0 HB;have t0:H (Row w0 (B+1) 29 #[Zs,(),(),(),Zs,V I 0 0]):=by
  show Row _ _ _ _;rw[j0.out,HB.out];have:=Row.new (w.alloc (J #[k,V ab n cb,V G n n,rt] 237)) #[Zs,(),(),(),Zs,V I 0 0] 29
  simpa using this
 have o0:=bl2 j0;have d0:B+1<w0.1.size:=t0.lt;have j1:w.1.size<=B:=by rw[HB.out];exact Ay _
 have s0:H (w.1.size+1=B+1):=by show _=_;rw[HB.out]
 obtain⟨bb,ob,rfl,r0⟩:=h i hi;have b1:bb<w:=A7 r0;have KP:H (Ak prog 226 #[V G n n,(i:Int)] w0 fun e w'=>∃ v,e=Ae (Ah #[v,(pfB n L (i:Int))])/\jCp w0 w' v (pfR n L (i:Int)) (pfF n L (i:Int))/\Ab w0 w0 w'):=jKt _ _ _ L _ _ (hg.below o0) (by omega) (fun i _=>by have:=hL i;unfold Au;omega);have KC:H (∀ W,CB 120 #[rt] W rt):=fun W=>qO rt W hr
 have h0:H (Ab w w w0):=o0;obtain⟨m,HM⟩:=nnH (pfR n L (i:Int));obtain⟨F,HF⟩:=nnH (pfF n L (i:Int));rw[HM.out,HF.out] at KP;rw[HM.out,HF.out];generalize pfB n L (i:Int)=okp at KP;have c0:=n0.cell 2;simp at c0;have i0:H (w0.cell? (Q bb (ob+i) I)=M (Ag (S i))):=(h0.cell (p:=Q bb (ob+i) I) b1).trans r0;have k1:(i:Int)<(n:Int):=by omega
 obtain⟨sb,y0⟩:=nnH (S i);rw[y0.out] at i0;rw[y0.out];clear h hg o0 r0 hL;go_enter func211,ntmps211
 go_wp2_with fail
 rw[<-j0.out,<-HB.out];refine Ax KP.out ?_;rintro e w1 ⟨v1,rfl,⟨aP,cP,rfl,O1⟩,g0⟩;have v0:H (Row w1 B 237 #[k,V (Q bb ob I) n cb,V G n n,rt]):=n0.below g0 n0.lt;have u0:H (Row w1 (B+1) 29 #[Zs,(),(),(),Zs,V I 0 0]):=t0.below g0 d0;have m0:bb<w0:=Bu b1 h0.size;have a1:=(g0.cell (p:=Q bb (ob+i) I) m0).trans i0;have c1:bb<w1:=Bu m0 g0.size;obtain⟨q0,q1,q3⟩:=v0.c3 0 1 3;simp at q0 q1 q3;have lB:=v0.lt;have m1:¬ bb=B+1:=by have:=s0.out;omega
 have i1:¬ B+1=bb:=by have:=s0.out;omega
 have lP:=u0.lt;have g1:H (jI w1 w0 aP m cP F):=O1;have z0:H (Ab w w w1):=h0.trans (g0.mono h0.size);clear O1 KP c0 i0 g0 h0;go_wp2_with fail
 go_region_held3 (fun w'=>w'.cell? (Q B 0 I)=M (Ao Ar k)/\w'.cell? (Q B 1 I)=M (V (Q bb ob I) n cb)/\w'.cell? (Q B 3 I)=M (Ag rt)/\w'.cell? (Q bb (ob+i) I)=M (Ag sb)) (go_keep) ((go_at_call 120;refine Ax (KC _) ?_;rintro e w5 ⟨rfl,k0⟩;have b0:=jC k0;clear k0;have p0:=(b0.cell (p:=B) lB).trans q0;have p1:=(b0.cell (p:=Q B 1 I) lB).trans q1;have p3:=(b0.cell (p:=Q B 3 I) lB).trans q3;have p4:=(b0.cell (p:=Q bb (ob+i) I) c1).trans a1;have a0:H (Row w5 (B+1) 29 #[Zs,(),(),(),Zs,V I 0 0]):=u0.below b0 lP;have x0:=a0.cell 0;have x1:=a0.cell 1;have x2:=a0.cell 2;have x3:=a0.cell 3;have x4:=a0.cell 4;have x5:=a0.cell 5;have f0:=a0.free 0;have f1:=a0.free 1;have f2:=a0.free 2;have f3:=a0.free 3;have f4:=a0.free 4;have f5:=a0.free 5;simp at x0 x1 x2 x3 x4 x5))
 all_goals
  have ZR:H (Row ((((((w5.setCell (Q (B+1) 0 I) rt).setCell (Q (B+1) 1 I) k).setCell (Q (B+1) 2 I) (n:Int)).setCell (Q (B+1) 3 I) (i:Int)).setCell (Q (B+1) 4 I) sb).setCell (Q (B+1) 5 I) (V aP m cP)) (B+1) 29 (pcC rt k (n:Int) (i:Int) sb (V aP m cP))):=(((((a0.set 0 _).set 1 _).set 2 _).set 3 _).set 4 _).set 5 _;have ZO:H (jI ((((((w5.setCell (Q (B+1) 0 I) rt).setCell (Q (B+1) 1 I) k).setCell (Q (B+1) 2 I) (n:Int)).setCell (Q (B+1) 3 I) (i:Int)).setCell (Q (B+1) 4 I) sb).setCell (Q (B+1) 5 I) (V aP m cP)) w aP m cP F):=jI.base (jI.setFar (jI.setFar (jI.setFar (jI.setFar (jI.setFar (jI.setFar (jI.below g1 b0) d0) d0) d0) d0) d0) d0) (by have:=s0.out;omega);have e1:H (Ab w w w5):=z0.trans (b0.mono z0.size);have e0:w.1.size<=B+1:=by omega
  clear p0 p1 p3 p4 x0 x1 x2 x3 x4 x5 f0 f1 f2 f3 f4 f5;go_wp2
  refine B7 (v:=pcV rt k (n:Int) (i:Int) sb (V aP m cP)) (Ck results211 _ _ (B+1) 29 _ (0,0) _ (by simp) ZR underlying29 rfl Tryz.infoPc) rfl ⟨_,rfl,⟨_,_,rfl,ZO⟩,?_⟩;exact Bn (Bn (Bn (Bn (Bn (Bn e1 e0 _) e0 _) e0 _) e0 _) e0 _) e0 _
structure Pc where
 r:BA
 k:Int
 n:Int
 i:Int
 b:BA
 m:Nat
 S:Nat->BA
def cel (p:Pc) (v:Aj):Nat->Aj
 | 0=>Ag p.r
 | 1=>Ao Ar p.k
 | 2=>Ao Ar p.n
 | 3=>Ao Ar p.i
 | 4=>Ag p.b
 | _=>v
def gL (c:Nat->Nat->Aj) (n:Nat):List Aj:=(List.range (n*6)).map fun j=>c (j / 6) (j % 6)
theorem XR (c:Nat->Nat->Aj) (n:Nat):(gL c n).length=n*6:=by simp[gL]
theorem XQ (c:Nat->Nat->Aj) (n i q:Nat) (hi:i<n) (hq:q<6):(gL c n)[i*6+q]?=M (c i q):=by
 have h:i*6+q<n*6:=by omega
 simp[gL,h,show (i*6+q) / 6=i by omega,show (i*6+q) % 6=q by omega]
theorem jBp {c c':Nat->Nat->Aj} {n:Nat} (h:∀ i q,i<n->q<6->c i q=c' i q):gL c n=gL c' n:=by
 unfold gL;refine El fun j hj=>?_
 have:j<n*6:=by simpa using hj
 exact h _ _ (by omega) (by omega)
theorem jRn (c:Nat->Nat->Aj) (n i q:Nat) (v:Aj) (hi:i<n) (hq:q<6):(gL c n).set (i*6+q) v=gL (fun i' q'=>if i'=i/\q'=q then v else c i' q') n:=by
 apply Co
 intro j;rw[Ey];by_cases hj:j<n*6
 .by_cases e:i*6+q=j
  .subst e;rw[A6 rfl,A6 (by rw[XR];omega),XQ _ _ _ _ hi hq];simp
  .rw[A5 e];have h1:=XQ c n (j / 6) (j % 6) (by omega) (by omega);have h2:=XQ (fun i' q'=>if i'=i/\q'=q then v else c i' q') n (j / 6) (j % 6) (by omega) (by omega);rw[show j / 6*6+j % 6=j by omega] at h1 h2;rw[h1,h2,A5 (by omega)]
 .rw[A5 (by omega)];rw[Be (by rw[XR];omega),Be (by rw[XR];omega)]
theorem jPr (c:Nat->Nat->Aj) (n:Nat):gL c (n+1)=gL c n++[c n 0,c n 1,c n 2,c n 3,c n 4,c n 5]:=by
 apply Co
 intro j;by_cases hj:j<n*6
 .rw[Ea (by rw[XR];omega)];have h1:=XQ c (n+1) (j / 6) (j % 6) (by omega) (by omega);have h2:=XQ c n (j / 6) (j % 6) (by omega) (by omega);rw[show j / 6*6+j % 6=j by omega] at h1 h2;rw[h1,h2]
 .rw[Ds (by rw[XR];omega),XR];by_cases h6:j<(n+1)*6
  .obtain⟨q,rfl⟩:∃ q,j=n*6+q:=⟨j-n*6,by omega⟩;have hq:q<6:=by omega
   rw[XQ _ _ _ _ (by omega) hq,show n*6+q-n*6=q by omega];match q,hq with
   | 0,_=>rfl
   | 1,_=>rfl
   | 2,_=>rfl
   | 3,_=>rfl
   | 4,_=>rfl
   | 5,_=>rfl
  .rw[Be (by rw[XR];omega),Be (by simp;omega)]
def jEj (w:Ad) (B:Nat) (a:OA) (n cap:Nat) (c:Nat->Nat->Aj):Prop:=w.ownsRow B 29 6 (V a n cap) n (gL c n)
theorem jEj.congr {w:Ad} {B:Nat} {a:OA} {n cap:Nat} {c c':Nat->Nat->Aj} (h:jEj w B a n cap c) (e:∀ i q,i<n->q<6->c i q=c' i q):jEj w B a n cap c':=by
 unfold jEj;rw[<-jBp e];exact h
theorem jEj.below {w w':Ad} {B:Nat} {a:OA} {n cap:Nat} {c:Nat->Nat->Aj} (h:jEj w B a n cap c) (hb:Ab w w w'):jEj w' B a n cap c:=jE h hb
theorem jEj.cell {w:Ad} {B g:Nat} {n cap:Nat} {c:Nat->Nat->Aj} (h:jEj w B g n cap c) {i q:Nat} (hi:i<n) (hq:q<6):w.cell? (Q g (i*6+q) I)=M (c i q):=by
 have:=Br h (i*6+q) (by omega)
 rw[this];exact XQ _ _ _ _ hi hq
theorem jEj.set {w:Ad} {B g:Nat} {n cap:Nat} {c:Nat->Nat->Aj} (h:jEj w B g n cap c) {i q:Nat} (hi:i<n) (hq:q<6) (v:Aj):jEj (w.setCell (Q g (i*6+q) I) v) B g n cap (fun i' q'=>if i'=i/\q'=q then v else c i' q'):=by
 have:=Dh h (i*6+q) v
 rw[jRn _ _ _ _ _ hi hq] at this;exact this.1
def jCn (w:Ad) (B:Nat) (a:OA) (n cap:Nat) (A:Nat->OA) (C:Nat->Nat) (P:Nat->Pc):Prop:=
 jEj w B a n cap (fun i=>cel (P i) (V (A i) (P i).m (C i)))/\(∀ i,i<n->jI w B (A i) (P i).m (C i) (P i).S) /\
 (∀ i j x y,i<j->j<n->A i=M x->A j=M y->x.block≠y.block)/\(∀ i x y,i<n->A i=M x->a=M y->x.block≠y.block)
def jRa (w w':Ad) (v:Aj) (n:Nat) (P:Nat->Pc):Prop:=∃ g cap A C,v=V (Q g 0 I) n cap/\jCn w' w (Q g 0 I) n cap A C P
noncomputable def jL3 (k:Int) (n:Nat) (S:Nat->BA):Nat->Pc:=fun i=>⟨rtS n (lvs k n S),k,(n:Int),(i:Int),S i,pfR n (lvs k n S) (i:Int),pfF n (lvs k n S) (i:Int)⟩
structure Sl where
 r:BA
 p:Pc
 h:Bool
 e:Bool
 d:Bool
 o:Bool
 ze:List Int
 zr:List Int
def slD (s:Sl):Nat->Dt
 | 0=>.val (Ag s.r)
 | 1=>.val (Ag s.p.r)
 | 2=>.val (Ao Ar s.p.k)
 | 3=>.val (Ao Ar s.p.n)
 | 4=>.val (Ao Ar s.p.i)
 | 5=>.val (Ag s.p.b)
 | 6=>txD s.p.m s.p.S
 | 7=>.val (.bool s.h)
 | 8=>.val (.bool s.e)
 | 9=>.val (.bool s.d)
 | 10=>.val (.bool s.o)
 | 11=>inD s.ze
 | _=>inD s.zr
abbrev slC (s:Sl) (v6 v11 v12:Aj):Array Aj:=#[Ag s.r,Ag s.p.r,Ao Ar s.p.k,Ao Ar s.p.n,Ao Ar s.p.i,Ag s.p.b,v6,.bool s.h,.bool s.e,.bool s.d,.bool s.o,v11,v12]
abbrev slV (s:Sl) (v6 v11 v12:Aj):Aj:=Ai (slC s v6 v11 v12)
structure Sy where
 k:Int
 f:Int
 t:Int
 r:BA
 p:Pc
def syD (s:Sy):Nat->Dt
 | 0=>.val (Ao Ar s.k)
 | 1=>.val (Ao Ar s.f)
 | 2=>.val (Ao Ar s.t)
 | 3=>.val (Ag s.r)
 | 4=>.val (Ag s.p.r)
 | 5=>.val (Ao Ar s.p.k)
 | 6=>.val (Ao Ar s.p.n)
 | 7=>.val (Ao Ar s.p.i)
 | 8=>.val (Ag s.p.b)
 | _=>txD s.p.m s.p.S
abbrev syC (s:Sy) (v:Aj):Array Aj:=#[Ao Ar s.k,Ao Ar s.f,Ao Ar s.t,Ag s.r,Ag s.p.r,Ao Ar s.p.k,Ao Ar s.p.n,Ao Ar s.p.i,Ag s.p.b,v]
abbrev syV (s:Sy) (v:Aj):Aj:=Ai (syC s v)
abbrev jFy (y:Nat->Aj):Aj:=Ai #[y 0,y 1,y 2,y 3,y 4,y 5,y 6,y 7,y 8,y 9,y 10,y 11,y 12]
abbrev jRc (y:Nat->Aj):Aj:=Ai #[y 0,y 1,y 2,y 3,y 4,y 5,y 6,y 7,y 8,y 9]
def qH (n:Nat) (S:Nat->Sl):Dt:=.lst 42 13 n fun i=>slD (S i)
def qI (n:Nat) (S:Nat->Sy):Dt:=.lst 31 10 n fun i=>syD (S i)
theorem vJ {w:Ad} {n:Nat} {S:Nat->Sl} {a:OA} {cap:Nat} (h:Rd w (qH n S) (V a n cap)) {i:Nat} (hi:i<n):∃ (b off:Nat) (y:Nat->Aj) (a6 a0 b0:OA) (c6 c0 d0:Nat),a=M (Q b off I)/\(∀ q,q<13->w.cell? (Q b (off+(i*13+q)) I)=M (y q))/\jFy y=slV (S i) (V a6 (S i).p.m c6) (V a0 (S i).ze.length c0) (V b0 (S i).zr.length d0)/\jL w a6 (S i).p.m (S i).p.S/\jH w a0 (S i).ze.length (S i).ze/\jH w b0 (S i).zr.length (S i).zr:=by
 obtain⟨b,off,y,ea,hc,hr⟩:=h.row hi;obtain⟨a6,c6,e6⟩:=(hr 6 (by omega)).shape;have r6:=hr 6 (by omega);rw[e6] at r6;obtain⟨a0,c0,e0⟩:=(hr 11 (by omega)).shape;have i0:=hr 11 (by omega);rw[e0] at i0;obtain⟨b0,d0,f0⟩:=(hr 12 (by omega)).shape;have j0:=hr 12 (by omega);rw[f0] at j0;have g0:=hr 0 (by omega);have g1:=hr 1 (by omega);have g2:=hr 2 (by omega);have g3:=hr 3 (by omega);have g4:=hr 4 (by omega);have g5:=hr 5 (by omega);have g7:=hr 7 (by omega);have g8:=hr 8 (by omega);have g9:=hr 9 (by omega);have h0:=hr 10 (by omega);simp only[Rd,slD] at g0 g1 g2 g3 g4 g5 g7 g8 g9 h0;exact⟨b,off,y,a6,a0,b0,c6,c0,d0,ea,hc,by simp only[jFy,slV,slC,g0,g1,g2,g3,g4,g5,g7,g8,g9,h0,e6,e0,f0],XX.1 r6,qL.1 i0,qL.1 j0⟩
theorem jCa {w:Ad} {n:Nat} {S:Nat->Sy} {a:OA} {cap:Nat} (h:Rd w (qI n S) (V a n cap)) {i:Nat} (hi:i<n):∃ (b off:Nat) (y:Nat->Aj) (a9:OA) (c9:Nat),a=M (Q b off I)/\(∀ q,q<10->w.cell? (Q b (off+(i*10+q)) I)=M (y q))/\jRc y=syV (S i) (V a9 (S i).p.m c9)/\jL w a9 (S i).p.m (S i).p.S:=by
 obtain⟨b,off,y,ea,hc,hr⟩:=h.row hi;obtain⟨a9,c9,e9⟩:=(hr 9 (by omega)).shape;have r9:=hr 9 (by omega);rw[e9] at r9;have g0:=hr 0 (by omega);have g1:=hr 1 (by omega);have g2:=hr 2 (by omega);have g3:=hr 3 (by omega);have g4:=hr 4 (by omega);have g5:=hr 5 (by omega);have g6:=hr 6 (by omega);have g7:=hr 7 (by omega);have g8:=hr 8 (by omega);simp only[Rd,syD] at g0 g1 g2 g3 g4 g5 g6 g7 g8;exact⟨b,off,y,a9,c9,ea,hc,by simp only[jRc,syV,syC,g0,g1,g2,g3,g4,g5,g6,g7,g8,e9],XX.1 r9⟩
theorem XK {w:Ad} {b o:Nat} {y:Nat->Aj} (h:∀ q,q<13->w.cell? (Q b (o+q) I)=M (y q)):w.rangeAt b o [y 0,y 1,y 2,y 3,y 4,y 5,y 6,y 7,y 8,y 9,y 10,y 11,y 12]:=fun j v hv=>by
 have hj:=(Ca.1 hv).1;rw[h j hj,<-hv];match j,hj with
 | 0,_|1,_|2,_|3,_|4,_|5,_|6,_|7,_|8,_|9,_|10,_|11,_|12,_=>rfl
theorem jQg {w:Ad} {b o:Nat} {y:Nat->Aj} (h:∀ q,q<10->w.cell? (Q b (o+q) I)=M (y q)):w.rangeAt b o [y 0,y 1,y 2,y 3,y 4,y 5,y 6,y 7,y 8,y 9]:=fun j v hv=>by
 have hj:=(Ca.1 hv).1;rw[h j hj,<-hv];match j,hj with
 | 0,_|1,_|2,_|3,_|4,_|5,_|6,_|7,_|8,_|9,_=>rfl
theorem Tryz.infoSl:(Tryz.prog.info? 42).map (·.size)=M 13:=by kernel_rfl
theorem Tryz.infoNd:(Tryz.prog.info? 26).map (·.size)=M 3:=by kernel_rfl
theorem Tryz.infoSy:(Tryz.prog.info? 31).map (·.size)=M 10:=by kernel_rfl
theorem Tryz.infoPc3:(Tryz.prog.info? 29).map (fun i=>(i.zero,i.size,i.bytes))=M (M (Ai #[Ap,(),(),(),Ap,V I 0 0]),6,80):=by kernel_rfl
def zc:Nat->Aj
 | 0=>Ag Ap
 | 1=>Ao Ar 0
 | 2=>Ao Ar 0
 | 3=>Ao Ar 0
 | 4=>Ag Ap
 | _=>V I 0 0
theorem jP4 (n:Nat):(madeCells #[Ap,(),(),(),Ap,V I 0 0] (n*6)).toList=gL (fun _=>zc) n:=by
 apply Co
 intro j;by_cases hj:j<n*6
 .have h2:=XQ (fun _=>zc) n (j / 6) (j % 6) (by omega) (by omega);rw[show j / 6*6+j % 6=j by omega] at h2;rw[h2];have hq:j % 6<6:=by omega
  simp[madeCells,hj];generalize j % 6=q at hq;match q,hq with
  | 0,_=>rfl
  | 1,_=>rfl
  | 2,_=>rfl
  | 3,_=>rfl
  | 4,_=>rfl
  | 5,_=>rfl
 .rw[Be (by simp[madeCells];omega),Be (by rw[XR];omega)]
def jIt (wr:Ad) (B G n:Nat) (P:Nat->Pc) (c:Nat):Prop:=∃ (A:Nat->OA) (C:Nat->Nat),
 jEj wr B G n n (fun i=>if i<c then cel (P i) (V (A i) (P i).m (C i)) else zc)/\(∀ i,i<c->jI wr B (A i) (P i).m (C i) (P i).S) /\
 (∀ i j x y,i<j->j<c->A i=M x->A j=M y->x.block≠y.block)/\(∀ i x,i<c->A i=M x->x.block≠G)
theorem jIt.step {wr w2:Ad} {B G n:Nat} {P:Nat->Pc} {c:Nat} {aP:OA} {cP:Nat} (h:jIt wr B G n P c) (hc:c<n) (hb:Ab wr wr w2) (hB:B<=wr) (ho:jI w2 wr aP (P c).m cP (P c).S):jIt ((((((w2.setCell (Q G (c*6+0) I) (Ag (P c).r)).setCell (Q G (c*6+1) I) (Ao Ar (P c).k)).setCell (Q G (c*6+2) I) (Ao Ar (P c).n)).setCell (Q G (c*6+3) I) (Ao Ar (P c).i)).setCell (Q G (c*6+4) I) (Ag (P c).b)).setCell (Q G (c*6+5) I) (V aP (P c).m cP)) B G n P (c+1):=by
 obtain⟨A,C,h1,h2,h3,h4⟩:=h;have lG:=(A0 h1 G rfl).2;refine⟨fun i=>if i=c then aP else A i,fun i=>if i=c then cP else C i,?_,?_,?_,?_⟩
 .have e:=(((((h1.below hb).set hc (show 0<6 by omega) (Ag (P c).r)).set hc (show 1<6 by omega) (Ao Ar (P c).k)).set hc (show 2<6 by omega) (Ao Ar (P c).n)).set hc (show 3<6 by omega) (Ao Ar (P c).i)).set hc (show 4<6 by omega) (Ag (P c).b);have e2:=e.set hc (show 5<6 by omega) (V aP (P c).m cP);refine e2.congr fun i q hi hq=>?_
  by_cases ei:i=c
  .subst ei;match q,hq with
   | 0,_=>simp[cel]
   | 1,_=>simp[cel]
   | 2,_=>simp[cel]
   | 3,_=>simp[cel]
   | 4,_=>simp[cel]
   | 5,_=>simp[cel]
  .by_cases e2:i<c
   .simp[ei,e2,show i<c+1 by omega]
   .simp[ei,e2,show ¬ i<c+1 by omega]
 .intro i hi;by_cases ei:i=c
  subst ei;simp only[C0];have o1:=jI.base ho hB;have far:∀ x,aP=M x->x.block≠G:=fun x e=>by subst e;have:=(A0 ho x.block rfl).1;omega
  rotate_left;simp only[ei,Dj];have o1:=jI.below (h2 i (by omega)) hb;have far:∀ x,A i=M x->x.block≠G:=fun x e=>h4 i x (by omega) e
  rotate_left;all_goals
   exact jK (jK (jK (jK (jK (jK o1 (jP _ _ _ _) far) (jP _ _ _ _) far) (jP _ _ _ _) far) (jP _ _ _ _) far) (jP _ _ _ _) far) (jP _ _ _ _) far
 .intro i j x y b0 hj hx hy;replace hx:(if i=c then aP else A i)=M x:=hx
  replace hy:(if j=c then aP else A j)=M y:=hy
  by_cases ej:j=c
  .subst ej;simp only[C0] at hy;rw[A5 (by omega)] at hx;subst hy;have l1:=(A0 ho y.block rfl).1;have a0:=h2 i (by omega);rw[hx] at a0;have l2:=(A0 a0 x.block rfl).2;omega
  .rw[A5 ej] at hy;rw[A5 (by omega)] at hx;exact h3 i j x y b0 (by omega) hx hy
 .intro i x hi hx;replace hx:(if i=c then aP else A i)=M x:=hx
  by_cases ei:i=c
  .subst ei;simp only[C0] at hx;subst hx;have:=(A0 ho x.block rfl).1
   omega
  .rw[A5 ei] at hx;exact h4 i x (by omega) hx
theorem jIt.all {wr:Ad} {B G n:Nat} {P:Nat->Pc} (h:jIt wr B G n P n):∃ A C,jCn wr B G n n A C P:=by
 obtain⟨A,C,h1,h2,h3,h4⟩:=h;refine⟨A,C,h1.congr (fun i q hi _=>by simp[hi]),h2,h3,fun i x y hi hx hy=>?_⟩;cases hy;exact h4 i x hi hx
noncomputable def jIp (s:BA) (k n:Int):Nat:=if vK s k n=Aw then n.toNat else 0
theorem jM2 (s:BA) (k n:Int) (w:Ad) (hs:s.size<=1048576):Ak prog 191 #[s,k,n] w fun e w'=>∃ v,e=Ae (Ah #[v,(vK s k n)])/\jRa w w' v (jIp s k n) (jL3 k n.toNat (ZE s k.toNat))/\Ab w w w':=by
 have KE:H (Ak prog 209 #[s,k,n] w fun e w'=>∃ v,e=Ae (Ah #[v,(vK s k n)])/\jCp w w' v (jBo s k n) (ZE s k.toNat)/\Ab w w w'):=jHf s k n w hs;unfold jIp;cases hok:vK s k n with
 | false=>
  rw[hok] at KE;obtain⟨P,HP⟩:=nnH (jL3 k n.toNat (ZE s k.toNat));rw[HP.out];go_enter func191,ntmps191
  go_wp2_with fail
  refine Ax KE.out ?_;rintro e w1 ⟨v,rfl,_,b1⟩;have HO:H (jCn (w1.alloc (J #[] 29)) w (Q w1 0 I) 0 0 (fun _=>I) (fun _=>0) P):=⟨Cc w1 #[] 0 b1.size (by unfold Au;omega) rfl,fun i hi=>Bo hi (Bk _),fun i j x y _ hj=>Bo hj (Bk _),fun i x y hi=>Bo hi (Bk _)⟩;go_wp2
  go_ret2
  exact⟨_,rfl,⟨_,_,_,_,rfl,HO.out⟩,b1.alloc b1.size _⟩
 | true=>
  obtain⟨h1,h2,h3,h4⟩:=JV hok;have hR:jBo s k n=n.toNat:=by unfold jBo;rw[hok];rfl
  have r0:=fun i=>jEq hok i
  rw[hok,hR] at KE;rw[A6 rfl];obtain⟨N,rfl⟩:∃ N:Nat,n=(N:Int):=⟨n.toNat,by omega⟩;rw[Cy] at KE |-;generalize ZE s k.toNat=S at KE r0 |-;have hN:N<=16:=by omega
  obtain⟨i0,hi,a1,c1,e1⟩:=Cg Tryz.infoPc3;have j0:H (∀ i,jL3 k N S i=⟨rtS N (lvs k N S),k,(N:Int),(i:Int),S i,pfR N (lvs k N S) (i:Int),pfF N (lvs k N S) (i:Int)⟩):=fun i=>rfl
  obtain⟨P,HP⟩:=nnH (jL3 k N S);rw[HP.out] at j0;rw[HP.out];obtain⟨L,HL⟩:=nnH (lvs k N S);have w0:H (∀ i,(L i).size<=16):=fun i=>by rw[<-HL.out];exact jJx _ _ _ _
  obtain⟨rt,p0⟩:=nnH (rtS N L);have n1:rt.size<=1048576:=by
   rw[<-p0.out];unfold rtS;split
   .rename_i hlv
    have:=vF hlv
    rw[Gt.rt_size (by omega) this.2.2];omega
   .decide
  rw[HL.out,p0.out] at j0;clear h1 h2 h3 h4 hok hR;go_enter func191,ntmps191
  go_wp2_with fail
  refine Ax KE.out ?_;rintro e w1 ⟨v,rfl,⟨aE,cE,rfl,O1⟩,b1⟩;have A1:jL w1 aE N S:=jI.at O1;clear O1;have n0:=jL6 k aE N cE S _ A1 (by omega) (fun i _=>by have:=r0 i;omega);rw[HL.out,p0.out] at n0;go_wp2_with fail
  refine Ax n0 ?_;rintro e w2 ⟨GL,rfl,O2,b2⟩;have s0:H (jL w2 aE N S):=A1.below b2;have v0:H (jL w2 GL N L):=jI.at O2;have t0:H (Ab w w w2):=jA b1 b2;clear A1 O2 b1 b2 n0 r0 KE;obtain⟨W,HW⟩:=nmH (w2.alloc (J #[k,V aE N cE,V GL N N,rt] 237));obtain⟨D,HD⟩:=nmH w2.1.size;have z0:=jZ HW HD;have k0:=bl1 HW;go_wp2_with (at_make;rw[<-HW.out,<-HD.out];refine Cv _ rfl _ _ 87 rfl W 29 i0 (Ai #[Ap,(),(),(),Ap,V I 0 0]) 6 underlying87 hi a1 c1 Ar Ar _ _ N rfl rfl rfl rfl (by rw[e1];omega) (by unfold Au;omega) (Ay _) ?_;intro w3 m0 h0)
  obtain⟨G,HG⟩:=nmH W.1.size;have e0:W.1.size<=G:=by rw[HG.out];exact Ay _
  have K3:H (jIt w3 W G N P 0):=by
   refine⟨fun _=>I,fun _=>0,?_,fun i hi=>Bo hi (Bk _),fun i j x y _ hj=>Bo hj (Bk _),fun i x hi=>Bo hi (Bk _)⟩;rw[HG.out];show World.ownsRow _ _ _ _ _ _ _;rw[jBp (c':=fun _=>zc) (fun i q _ _=>by simp),<-jP4];exact m0
  have KB3:H (Ab W W w3):=(Az _ _).grown h0 (Ay _) (by simp);have q0:H (Ab w w W):=jA t0.out k0;have g1:H (jL W aE N S):=s0.out.below k0;have j1:H (jL W GL N L):=v0.out.below k0;rw[<-HG.out];clear m0 h0 k0 s0 v0 t0 hi a1 c1 e1;go_loopw [30] (fun i wr=>∃ c:Nat,c<=N/\i=Ao Ar c/\jIt wr W G N P c/\Ab W W wr) (fun i _=>N-(intOf i).toNat)
  case atStart=>exact⟨0,Bi _,rfl,K3.out,KB3.out⟩
  case round=>
   obtain⟨c,hk,rfl,g0,b0⟩:=hrel;clear K3 KB3;by_cases hlt:c<N
   .have o1:(c:Int)<(N:Int):=by omega
    have k1:H (Row wr D 237 #[k,V aE N cE,V GL N N,rt]):=z0.out.below b0 z0.out.lt;have KP:H (Ak prog 211 #[Ai #[k,V aE N cE,V GL N N,rt],(c:Int)] wr fun e w'=>∃ v,e=Ae (pcV rt k (N:Int) (c:Int) (S c) v)/\jCp wr w' v (P c).m (P c).S/\Ab wr.1.size wr w'):=by
     rw[j0.out];exact jKq k aE N cE S GL L rt c wr (g1.out.below b0) (j1.out.below b0) hlt (by omega) w0.out n1
    have KI:H (jIt wr W G N P c):=g0;have KB:H (Ab W W wr):=b0;have lG:G<wr.1.size:=by
     obtain⟨A,C,h1,_⟩:=g0;exact(A0 h1 G rfl).2
    have HS:H ((P c).r=rt/\(P c).k=k/\(P c).n=(N:Int)/\(P c).i=(c:Int)/\(P c).b=S c):=by rw[j0.out];exact⟨rfl,rfl,rfl,rfl,rfl⟩
    obtain⟨sc,m1⟩:=nnH (S c);rw[m1.out] at KP HS;obtain⟨mc,o0⟩:=nnH ((P c).m);rw[o0.out] at KP;have cells:∃ f:Nat->Aj,(∀ q,q<6->wr.cell? (Q G (c*6+q) I)=M (f q))/\∀ q,wr.frozen? (Q G (c*6+q) I)=Av:=by
     obtain⟨A,C,h1,_⟩:=g0;exact⟨_,fun q hq=>h1.cell hlt hq,fun q=>B0 h1 _⟩
    obtain⟨f,HF,u0⟩:=cells;have c0:H (∀ q,q<6->wr.cell? (Q G (c*6+q) I)=M (f q)):=HF;have d0:H (∀ q,wr.frozen? (Q G (c*6+q) I)=Av):=u0;clear g0 b0 HF u0;go_wp2_with (refine Bb rfl 237 _ rfl D rfl 237 _ (0,0) _ k1.out underlying237 rfl Tryz.infoCut ?_)
    refine Ax KP.out ?_;rintro e w4 ⟨v4,rfl,⟨aP,cP,rfl,O4⟩,a0⟩;have HI:H (jIt ((((((w4.setCell (Q G (c*6+0) I) rt).setCell (Q G (c*6+1) I) k).setCell (Q G (c*6+2) I) (N:Int)).setCell (Q G (c*6+3) I) (c:Int)).setCell (Q G (c*6+4) I) sc).setCell (Q G (c*6+5) I) (V aP mc cP)) W G N P (c+1)):=by
     have:=jIt.step (aP:=aP) (cP:=cP) KI.out hlt a0 KB.out.size (by rw[o0.out];exact O4)
     rw[o0.out,HS.out.1,HS.out.2.1,HS.out.2.2.1,HS.out.2.2.2.1,HS.out.2.2.2.2] at this;exact this
    have HB4:H (Ab W W ((((((w4.setCell (Q G (c*6+0) I) rt).setCell (Q G (c*6+1) I) k).setCell (Q G (c*6+2) I) (N:Int)).setCell (Q G (c*6+3) I) (c:Int)).setCell (Q G (c*6+4) I) sc).setCell (Q G (c*6+5) I) (V aP mc cP))):=Bn (Bn (Bn (Bn (Bn (Bn (jA KB.out a0) e0 _) e0 _) e0 _) e0 _) e0 _) e0 _;have x0:=(a0.cell (p:=Q G (c*6+0) I) lG).trans (c0.out 0 (by omega));have x1:=(a0.cell (p:=Q G (c*6+1) I) lG).trans (c0.out 1 (by omega));have x2:=(a0.cell (p:=Q G (c*6+2) I) lG).trans (c0.out 2 (by omega));have x3:=(a0.cell (p:=Q G (c*6+3) I) lG).trans (c0.out 3 (by omega));have x4:=(a0.cell (p:=Q G (c*6+4) I) lG).trans (c0.out 4 (by omega));have x5:=(a0.cell (p:=Q G (c*6+5) I) lG).trans (c0.out 5 (by omega));have f0:=(Cx (a:=(Q G (c*6+0) I)) (a0.block _ lG)).trans (d0.out 0);have f1:=(Cx (a:=(Q G (c*6+1) I)) (a0.block _ lG)).trans (d0.out 1);have f2:=(Cx (a:=(Q G (c*6+2) I)) (a0.block _ lG)).trans (d0.out 2);have f3:=(Cx (a:=(Q G (c*6+3) I)) (a0.block _ lG)).trans (d0.out 3);have f4:=(Cx (a:=(Q G (c*6+4) I)) (a0.block _ lG)).trans (d0.out 4);have f5:=(Cx (a:=(Q G (c*6+5) I)) (a0.block _ lG)).trans (d0.out 5);generalize f 0=y0 at x0;generalize f 1=y1 at x1;generalize f 2=y2 at x2;generalize f 3=y3 at x3;generalize f 4=y4 at x4;generalize f 5=y5 at x5;clear a0 O4 KP KI KB c0 d0;rw[Cp] at x0 f0 HI HB4;go_wp2
    go_roundw
    case rel=>exact⟨c+1,by omega,by go_num,HI.out,HB4.out⟩
    case measure=>simp[intOf] <;> omega
   .obtain rfl:c=N:=by omega
    have HO:H (∃ A C,jCn wr w G c c A C P):=by
     obtain⟨A,C,h1,h2,h3⟩:=jIt.all g0;exact⟨A,C,jY h1 q0.out.size,fun i hi=>jI.base (h2 i hi) q0.out.size,h3⟩
    have i1:H (Ab w w wr):=jA q0.out b0;clear g0 b0;go_wp2
    go_ret2
    obtain⟨A,C,hO⟩:=HO.out;exact⟨_,rfl,⟨_,_,A,C,rfl,hO⟩,i1.out⟩
def SlS (s:Sl):Prop:=s.p.m<=1048576/\s.ze.length<=1048576/\s.zr.length<=1048576
theorem jJd (s:Sl) (a6 b6 b0 d0 c0 e0:OA) (c6 d6 i0 k0 j0 m0:Nat) (w:Ad) (h6:jL w a6 s.p.m s.p.S) (k6:jL w b6 s.p.m s.p.S) (p0:jH w b0 s.ze.length s.ze) (r0:jH w d0 s.ze.length s.ze) (q0:jH w c0 s.zr.length s.zr) (s0:jH w e0 s.zr.length s.zr) (hs:SlS s):CB 194 #[slV s (V a6 s.p.m c6) (V b0 s.ze.length i0) (V c0 s.zr.length j0),slV s (V b6 s.p.m d6) (V d0 s.ze.length k0) (V e0 s.zr.length m0)] w Aw:=by
 obtain⟨r,p,fh,fe,fd,fo,ze,zr⟩:=s;obtain⟨rr,kk,nn,ii,bb,m,S⟩:=p;obtain⟨hm,he,hz⟩:=hs;simp only at h6 k6 p0 r0 q0 s0 hm he hz;obtain⟨A,HA⟩:=nmH w.1.size;obtain⟨B,HB⟩:=nmH (w.1.size+1);obtain⟨w0,h0⟩:=nmH ((w.alloc (J (slC ⟨r,⟨rr,kk,nn,ii,bb,m,S⟩,fh,fe,fd,fo,ze,zr⟩ (V a6 m c6) (V b0 ze.length i0) (V c0 zr.length j0)) 42)).alloc (J (slC ⟨r,⟨rr,kk,nn,ii,bb,m,S⟩,fh,fe,fd,fo,ze,zr⟩ (V b6 m d6) (V d0 ze.length k0) (V e0 zr.length m0)) 42));have RA:=xS h0 HA;have RB:=zR h0 HB;have a0:=bl2 h0;have t0:=hd a0;have KP:H _:=jC0 rr kk nn ii bb a6 b6 m c6 d6 S w0 (h6.below a0) (k6.below a0) hm;have KE:H (∀ W,Ab w0 w0 W->CB 88 #[V b0 ze.length i0,V d0 ze.length k0] W Aw):=fun W hW=>JW b0 d0 ze.length i0 k0 ze W ((p0.below a0).below hW) ((r0.below a0).below hW) he
 have KZ:H (∀ W,Ab w0 w0 W->CB 88 #[V c0 zr.length j0,V e0 zr.length m0] W Aw):=fun W hW=>JW c0 e0 zr.length j0 m0 zr W ((q0.below a0).below hW) ((s0.below a0).below hW) hz
 generalize ze.length=le at *;generalize zr.length=lr at *;have f0:(r.toList !=r.toList)=Av:=by simp
 have g1:=vD r;have f1:(fh !=fh)=Av:=by simp
 have f2:(fe !=fe)=Av:=by simp
 have f3:(fd !=fd)=Av:=by simp
 have f4:(fo !=fo)=Av:=by simp
 go_enter func194,ntmps194
 go_wp2_with fail
 rw[<-h0.out,<-HB.out,<-HA.out];refine CM KP.out fun w1 b1=>?_
 have n0:=RA.out.below b1 RA.out.lt;have o0:=RB.out.below b1 RB.out.lt;obtain⟨x7,x8,x9,y0,z0⟩:=n0.c5 7 8 9 10 11;obtain⟨y7,y8,y9,a1,c1⟩:=o0.c5 7 8 9 10 11;simp at x7 x8 x9 y0 z0 y7 y8 y9 a1 c1;have B1:=hd b1;have g0:H (Row w1 A 42 _/\Row w1 B 42 _):=⟨n0,o0⟩;go_wp2_with fail
 refine CM (KE.out _ B1.out) fun w2 b2=>?_
 have u0:=g0.out.1.below b2 g0.out.1.lt;have v0:=g0.out.2.below b2 g0.out.2.lt;have B2:=hd (jA B1.out b2);have e1:=u0.cell 12;have x0:=v0.cell 12;simp at e1 x0;go_wp2_with fail
 refine CM (KZ.out _ B2.out) fun w3 b3=>?_
 have B3:=hd (jA t0.out (jA B2.out b3));go_wp2
 go_ret
 exact⟨rfl,B3.out⟩
theorem zK {w:Ad} {b off i sz:Nat} {y:Nat->Aj} (W:Ad) (hW:Ab w w W) (h:∀ q,q<sz+1->w.cell? (Q b (off+(i*(sz+1)+q)) I)=M (y q)):W.cell? (Q b (off+i*(sz+1)) I)=M (y 0)/\(∀ q,q<sz+1->W.cell? (Q b (off+i*(sz+1)+q) I)=M (y q)):=by
 have k:∀ q,q<sz+1->W.cell? (Q b (off+i*(sz+1)+q) I)=M (y q):=fun q hq=>by
  have:=h q hq
  rw[<-Ef] at this;exact(hW.cell (p:=Q b (off+i*(sz+1)+q) I) (A7 this)).trans this
 exact⟨k 0 (by omega),k⟩
theorem jCh {w:Ad} {b off b' a0 i sz:Nat} {y y':Nat->Aj} (W:Ad) (hW:Ab w w W) (h:∀ q,q<sz+1->w.cell? (Q b (off+(i*(sz+1)+q)) I)=M (y q)) (h':∀ q,q<sz+1->w.cell? (Q b' (a0+(i*(sz+1)+q)) I)=M (y' q)):W.cell? (Q b (off+i*(sz+1)) I)=M (y 0)/\(∀ q,q<sz+1->W.cell? (Q b (off+i*(sz+1)+q) I)=M (y q))/\W.cell? (Q b' (a0+i*(sz+1)) I)=M (y' 0)/\(∀ q,q<sz+1->W.cell? (Q b' (a0+i*(sz+1)+q) I)=M (y' q)):=by
 obtain⟨h1,h2⟩:=zK W hW h;obtain⟨h3,h4⟩:=zK W hW h';exact⟨h1,h2,h3,h4⟩
theorem jHi (a b:OA) (n ca cb:Nat) (S:Nat->Sl) (w:Ad) (ha:Rd w (qH n S) (V a n ca)) (hb:Rd w (qH n S) (V b n cb)) (hn:n<=1048576) (hs:∀ i,i<n->SlS (S i)):CB 175 #[V a n ca,V b n cb] w Aw:=by
 have KH:H (Rd w (qH n S) (V a n ca)/\Rd w (qH n S) (V b n cb)):=⟨ha,hb⟩;have HS:H (∀ i,i<n->SlS (S i)):=hs;have w0:((n:Int) !=(n:Int))=Av:=by simp
 clear ha hb hs;go_enter func175,ntmps175
 go_wp2
 go_loopw [5] (fun vi wr=>∃ c:Nat,c<=n/\vi=Ao Ar (c:Int)/\Ab w w wr) (fun vi _=>n-(intOf vi).toNat)
 case atStart=>exact⟨0,Bi _,rfl,Az _ _⟩
 case round=>
  obtain⟨c,u0,rfl,a0⟩:=hrel;by_cases hlt:c<n
  .have v0:(c:Int)<(n:Int):=by omega
   obtain⟨b1,f1,y1,p6,m0,n0,q6,o0,p0,rfl,c0,e1,h0,e0,j0⟩:=vJ (KH.1.below a0) hlt;obtain⟨b2,f2,y2,s6,q0,r0,t6,s0,t0,rfl,d0,e2,i0,f0,k0⟩:=vJ (KH.2.below a0) hlt;have g0:=HS c hlt;have KT:H (∀ W,Ab wr.1.size wr W->CB 194 #[jFy y1,jFy y2] W Aw):=fun W hW=>by
    rw[e1,e2];exact jJd (S c) p6 s6 m0 q0 n0 r0 q6 t6 o0 s0 p0 t0 W (h0.below hW) (i0.below hW) (e0.below hW) (f0.below hW) (j0.below hW) (k0.below hW) g0
   have KS:H (∀ W,Ab wr.1.size wr W->W.cell? (Q b1 (f1+c*13) I)=M (y1 0)/\(∀ q,q<13->W.cell? (Q b1 (f1+c*13+q) I)=M (y1 q))/\W.cell? (Q b2 (f2+c*13) I)=M (y2 0)/\(∀ q,q<13->W.cell? (Q b2 (f2+c*13+q) I)=M (y2 q))):=fun W hW=>jCh W hW c0 d0
   have KB:=hd a0;have hdr:=jD wr;clear c0 d0 h0 i0 e0 f0 j0 k0 a0 e1 e2 g0;go_wp2_with fail
   go_region_held3 (fun w'=>w'.cell? (Q b1 (f1+c*13) I)=M (y1 0)/\(∀ q,q<13->w'.cell? (Q b1 (f1+c*13+q) I)=M (y1 q))/\w'.cell? (Q b2 (f2+c*13) I)=M (y2 0)/\(∀ q,q<13->w'.cell? (Q b2 (f2+c*13+q) I)=M (y2 q))) (exact KS _ (by assumption)) ((go_at_call 194;refine Ax (KT _ hdr) ?_;rintro e w7 ⟨rfl,b0⟩;have b7:=jC b0;clear b0))
   all_goals
    have HB7:=hd (jA KB b7);clear b7;go_wp2
    go_roundw
    case rel=>exact⟨c+1,by omega,by go_num,HB7.out⟩
    case measure=>simp[intOf];omega
  .go_wp2
   go_ret
   exact⟨rfl,a0⟩
theorem jJa (id f:Int) (a b:OA) (n ca cb:Nat) (S:Nat->Sl) (w:Ad) (ha:Rd w (qH n S) (V a n ca)) (hb:Rd w (qH n S) (V b n cb)) (hn:n<=1048576) (hs:∀ i,i<n->SlS (S i)):CB 146 #[Ai #[id,f,V a n ca],Ai #[id,f,V b n cb]] w Aw:=by
 obtain⟨w0,b0⟩:=nmH ((w.alloc (J #[id,f,V a n ca] 26)).alloc (J #[id,f,V b n cb] 26));have a0:=bl2 b0;have c0:=hd a0;have KE:H _:=jHi a b n ca cb S w0 (ha.below a0) (hb.below a0) hn hs;have f0:(id !=id)=Av:=by simp
 have f1:(f !=f)=Av:=by simp
 go_enter func146,ntmps146
 go_wp2_with fail
 rw[<-b0.out];refine CM KE.out fun w1 b1=>?_
 go_wp2
 go_ret
 exact⟨rfl,jA c0 b1⟩
theorem jCn.snoc {w w2 w3:Ad} {B g g3 c cap a0:Nat} {A:Nat->OA} {C:Nat->Nat} {P:Nat->Pc} {aP:OA} {cP:Nat} {X:Obj} (h:jCn w B g c cap A C P) (hB:B<=w) (hb:Ab w w w2) (ho:jI w2 w aP (P c).m cP (P c).S) (h3:w3.ownsRow B 29 6 (V g3 (c+1) a0) (c+1) (gL (fun i=>cel (P i) (V (A i) (P i).m (C i))) c++[Ag (P c).r,Ao Ar (P c).k,Ao Ar (P c).n,Ao Ar (P c).i,Ag (P c).b,V aP (P c).m cP])) (hg:(w2.alloc X).grownBy w3 (M g)) (b0:g=g3\/g3=w2.1.size+1):∃ A' C',jCn w3 B g3 (c+1) a0 A' C' P:=by
 obtain⟨h1,h2,h4,h5⟩:=h;have lg:=(A0 h1 g rfl).2;have lA:∀ i x,i<c->A i=M x->x.block<w:=fun i x hi e=>by
  have:=h2 i hi
  rw[e] at this;exact(A0 this x.block rfl).2
 have lP:∀ x,aP=M x->w.1.size<=x.block/\x.block<w2:=fun x e=>by
  subst e;exact A0 ho x.block rfl
 have hs:=hb.size;refine⟨fun i=>if i=c then aP else A i,fun i=>if i=c then cP else C i,?_,?_,?_,?_⟩
 .show World.ownsRow _ _ _ _ _ _ _;have e:gL (fun i=>cel (P i) (V (if i=c then aP else A i) (P i).m (if i=c then cP else C i))) (c+1)=gL (fun i=>cel (P i) (V (A i) (P i).m (C i))) c++[Ag (P c).r,Ao Ar (P c).k,Ao Ar (P c).n,Ao Ar (P c).i,Ag (P c).b,V aP (P c).m cP]:=by
   rw[jPr,jBp (c':=fun i=>cel (P i) (V (A i) (P i).m (C i))) (fun i q hi _=>by simp[show i≠c by omega])];simp[cel]
  rw[e];exact h3
 .intro i hi;by_cases ei:i=c
  .subst ei;simp only[C0];exact jK (Cb (jI.base ho hB) X) hg (fun x e=>by have:=lP x e;omega)
  .simp only[ei,Dj];exact jK (Cb (jI.below (h2 i (by omega)) hb) X) hg (fun x e=>h5 i x _ (by omega) e rfl)
 .intro i j x y c0 hj hx hy;replace hx:(if i=c then aP else A i)=M x:=hx
  replace hy:(if j=c then aP else A j)=M y:=hy
  by_cases ej:j=c
  .subst ej;simp only[C0] at hy;rw[A5 (by omega)] at hx;have l1:=lP y hy;have l2:=lA i x (by omega) hx;omega
  .rw[A5 ej] at hy;rw[A5 (by omega)] at hx;exact h4 i j x y c0 (by omega) hx hy
 .intro i x y hi hx hy;replace hx:(if i=c then aP else A i)=M x:=hx
  cases hy;by_cases ei:i=c
  .subst ei;simp only[C0] at hx;have:=lP x hx
   rcases b0 with e|e
   .show x.block≠g3;omega
   .show x.block≠g3;omega
  .rw[A5 ei] at hx;have l2:=lA i x (by omega) hx;rcases b0 with e|e
   .subst e;exact h5 i x _ (by omega) hx rfl
   .show x.block≠g3;omega
theorem jCn.base {w:Ad} {B B':Nat} {a:OA} {n cap:Nat} {A:Nat->OA} {C:Nat->Nat} {P:Nat->Pc} (h:jCn w B a n cap A C P) (hB:B'<=B):jCn w B' a n cap A C P:=
 ⟨jY h.1 hB,fun i hi=>jI.base (h.2.1 i hi) hB,h.2.2⟩
theorem jNb (k:Int) (a:OA) (n cap:Nat) (S:Nat->BA) (w:Ad) (h:jL w a n S) (hn:n<=64) (hS:∀ i,i<n->(S i).size<=1048576):Ak prog 128 #[V a n cap,k,(n:Int)] w fun e w'=>∃ v,e=Ae v/\jRa w w' v n (jL3 k n S)/\Ab w w w':=by
 obtain⟨i0,hi,n1,o1,p1⟩:=Cg Tryz.infoStr;obtain⟨j0,hj,j1,k1,m1⟩:=Cg Tryz.infoPc3;have e0:H (∀ i,jL3 k n S i=⟨rtS n (lvs k n S),k,(n:Int),(i:Int),S i,pfR n (lvs k n S) (i:Int),pfF n (lvs k n S) (i:Int)⟩):=fun i=>rfl
 obtain⟨P,HP⟩:=nnH (jL3 k n S);rw[HP.out] at e0;rw[HP.out];obtain⟨L,HL⟩:=nnH (lvs k n S);have g0:H (∀ i,(L i).size<=16):=fun i=>by rw[<-HL.out];exact jJx _ _ _ _
 obtain⟨rt,q0⟩:=nnH (rtS n L);rw[HL.out,q0.out] at e0;have KH:=hd h;have KS:H (∀ i,i<n->(S i).size<=1048576):=hS;have K0:H (jI (w.alloc (J #[] 9)) w (Q w 0 I) 0 0 L/\Ab w w (w.alloc (J #[] 9))):=⟨jIq w _,(Az _ _).alloc (Ay _) _⟩;go_enter func128,ntmps128
 go_wp2
 go_loopw [7,8] (fun v vi wr=>∃ c g cc:Nat,c<=n/\vi=Ao Ar (c:Int)/\v=V g c cc/\jI wr w g c cc L/\Ab w w wr) (fun _ vi _=>n-(intOf vi).toNat)
 case atStart=>exact⟨0,w.1.size,0,Bi _,rfl,rfl,K0.1,K0.2⟩
 case round=>
  obtain⟨c,g,cc,hk,rfl,rfl,ho,x0⟩:=hrel;have KO:H (jI wr w g c cc L/\Ab w w wr):=⟨ho,x0⟩;by_cases hlt:c<n
  .have s1:(c:Int)<(n:Int):=by omega
   obtain⟨b1,c1,rfl,o0⟩:=(KH.below KO.2) c hlt;have KC:H (∀ W,CB 157 #[k,(n:Int),(c:Int),(S c)] W (L c)):=fun W=>by
    have:=JR k (n:Int) (c:Int) (S c) W (KS c hlt)
    rw[<-HL.out];exact this
   have lg:=A0 KO.1 _ rfl;generalize S c=sc at o0 KC;obtain⟨z,HZ⟩:=nnH (L c);rw[HZ.out] at KC;go_wp2_with fail
   refine CM (KC _) fun w6 w0=>?_
   have K6:H (jI w6 w g c cc L/\Ab w w w6):=⟨jI.below KO.1 w0,jA KO.2 w0⟩;have a1:=K6.2.size;go_wp2_with (at_builtin;refine qF _ rfl _ _ 27 rfl w 9 i0 Ap 1 16 C3 hi n1 o1 p1 rfl (by decide) g c cc _ rfl (Cb K6.out.1 _) ⟨w6.1.size,0,I⟩ 1 1 [z] rfl rfl (Cf (cs:=#[Ag z]) (t:=9) (fr:=(0,0)) (Cq w6 _)) (by simp[Aq]) (by unfold Au;omega) (by omega) (by simp;omega) ?_;intro g3 cap3 w7 c0 a0)
   have HL7:H (jI w7 w g3 (c+1) cap3 L/\Ab w w w7):=by
    refine⟨?_,(K6.2.alloc a1 _).grown (show World.grownBy _ w7 (M g) from a0) (by simp;omega) (fun j hj=>by cases hj;exact lg.1)⟩;unfold jI;rw[QC,HZ.out];exact c0
   go_roundw
   case rel=>exact⟨c+1,g3,cap3,by omega,by go_num,rfl,HL7.out.1,HL7.out.2⟩
   case measure=>simp[intOf];omega
  .obtain rfl:c=n:=by omega
   have KR:H (CB 164 #[V g c cc] wr (Ah #[rt,(lvB c L)])):=by
    have:=jLa g c cc L wr (jI.at KO.1) (by omega) (fun i _=>by have:=g0.out i;unfold Au;omega)
    rw[q0.out] at this;exact this
   generalize lvB c L=okr at KR;go_wp2_with fail
   refine CM KR.out fun w3 n0=>?_
   obtain⟨w4,k0⟩:=nmH (w3.alloc (J #[] 29));have u0:=bl1 k0;have f1:=hd ((jI.at KO.1).below n0);have e1:=hd ((KH.below KO.2).below n0);have s0:=hd (jA KO.2 n0);have KB34:=hd u0;have KP4:H (jCn w4 w3.1.size (Q w3.1.size 0 I) 0 0 (fun _=>I) (fun _=>0) P):=by
    rw[k0.out];exact⟨Cc w3 #[] 0 (Ay _) (by unfold Au;omega) rfl,fun i hi=>Bo hi (Bk _),fun i j x y _ hj=>Bo hj (Bk _),fun i x y hi=>Bo hi (Bk _)⟩
   go_wp2_with fail
   rw[<-k0.out];go_loopw [11,12] (fun v vi wr=>∃ q g2 d0:Nat,q<=c/\vi=Ao Ar (q:Int)/\v=V g2 q d0/\(∃ A C,jCn wr w3.1.size g2 q d0 A C P)/\Ab w3.1.size w3 wr) (fun _ vi _=>c-(intOf vi).toNat)
   case atStart=>exact⟨0,_,0,Bi _,rfl,rfl,⟨_,_,KP4⟩,KB34⟩
   case round=>
    obtain⟨q,g2,d0,hq,rfl,rfl,⟨A,C,z0⟩,v0⟩:=hrel;have b0:H (jCn wr w3.1.size g2 q d0 A C P/\Ab w3.1.size w3 wr):=⟨z0,v0⟩;have q1:=A0 z0.1 g2 rfl;by_cases hlt2:q<c
    .have t1:(q:Int)<(c:Int):=by omega
     have m0:H (Ak prog 165 #[V g c cc,(q:Int)] wr fun e w'=>∃ v,e=Ae (Ah #[v,(pfB c L (q:Int))])/\jCp wr w' v (P q).m (P q).S/\Ab wr.1.size wr w'):=by
      rw[e0.out];exact jIc g c cc L (q:Int) wr (f1.below b0.2) (by omega) (fun i _=>by have:=g0.out i;unfold Au;omega)
     generalize pfB c L (q:Int)=okp at m0;obtain⟨mq,h0⟩:=nnH ((P q).m);rw[h0.out] at m0;obtain⟨sc,r0⟩:=nnH (S q);have HS:H ((P q).r=rt/\(P q).k=k/\(P q).n=(c:Int)/\(P q).i=(q:Int)/\(P q).b=sc):=by rw[e0.out,r0.out];exact⟨rfl,rfl,rfl,rfl,rfl⟩
     go_wp2_with fail
     refine Ax m0.out ?_;rintro e w5 ⟨v5,rfl,⟨aP,cP,rfl,O5⟩,f0⟩;obtain⟨b1,c1,rfl,o0⟩:=((e1.below b0.2).below f0) q hlt2;rw[r0.out] at o0;have u1:=f0.size;have i1:=b0.2.size;have g1:=hd O5;have p0:=hd f0;have KX:=hd (b0.1.1.below f0);go_wp2_with (at_builtin;refine De _ rfl _ _ 87 rfl w3.1.size 29 j0 (Ai #[Ap,(),(),(),Ap,V I 0 0]) 6 80 underlying87 hj j1 k1 m1 rfl (by decide) (V g2 q d0) q _ rfl (Cb KX.out _) ⟨w5.1.size,0,I⟩ 1 1 [rt,k,(c:Int),(q:Int),sc,V aP mq cP] rfl rfl (Cf (cs:=#[Ag rt,Ao Ar k,Ao Ar (c:Int),Ao Ar (q:Int),Ag sc,V aP mq cP]) (t:=29) (fr:=(0,0)) (Cq w5 _)) (by simp[Aq]) (by omega) (by unfold Au;omega) (by omega) (by simp;omega) (w5.1.size+1) (by simp) ?_;intro g3 cap3 w7 c0 a0 t0 r1)
     have y0:=a0;have HN:H ((∃ A C,jCn w7 w3.1.size g3 (q+1) cap3 A C P)/\Ab w3.1.size w3 w7):=by
      refine⟨jCn.snoc (aP:=aP) (cP:=cP) b0.1 i1 p0 (by rw[h0.out];exact g1) ?_ y0 ?_,?_⟩
      .rw[h0.out,HS.out.1,HS.out.2.1,HS.out.2.2.1,HS.out.2.2.2.1,HS.out.2.2.2.2];exact c0
      .rcases t0 with e|e
       .exact .inl (by simpa [Value.ownBlock] using e)
       .exact .inr e
      .exact((jA b0.2 p0).alloc (by omega) _).grown y0 (by simp;omega) (fun j hj=>by cases hj;exact q1.1)
     go_roundw
     case rel=>exact⟨q+1,g3,cap3,by omega,by go_num,rfl,HN.out.1,HN.out.2⟩
     case measure=>simp[intOf];omega
    .obtain rfl:q=c:=by omega
     go_wp2
     go_ret
     exact⟨_,rfl,⟨_,_,A,C,rfl,b0.1.base s0.size⟩,jA s0 b0.2⟩
theorem jNc (s:BA) (k n:Int) (w:Ad) (hs:s.size<=1048576):Ak prog 101 #[s,k,n] w fun e w'=>∃ v,e=Ae (Ah #[v,(vK s k n)])/\jRa w w' v (jIp s k n) (jL3 k n.toNat (ZE s k.toNat))/\Ab w w w':=by
 have KE:=hd (jFe s k n w hs);unfold jIp;cases hok:vK s k n with
 | false=>
  rw[hok] at KE;obtain⟨P,HP⟩:=nnH (jL3 k n.toNat (ZE s k.toNat));rw[HP.out];go_enter func101,ntmps101
  go_wp2_with fail
  refine Ax KE.out ?_;rintro e w1 ⟨v,rfl,_,b1⟩;have HO:H (jCn (w1.alloc (J #[] 29)) w (Q w1 0 I) 0 0 (fun _=>I) (fun _=>0) P):=⟨Cc w1 #[] 0 b1.size (by unfold Au;omega) rfl,fun i hi=>Bo hi (Bk _),fun i j x y _ hj=>Bo hj (Bk _),fun i x y hi=>Bo hi (Bk _)⟩;go_wp2
  go_ret2
  exact⟨_,rfl,⟨_,_,_,_,rfl,HO⟩,b1.alloc b1.size _⟩
 | true=>
  obtain⟨h1,h2,h3,h4⟩:=JV hok;have hR:jBo s k n=n.toNat:=by unfold jBo;rw[hok];rfl
  have a0:=fun i=>jEq hok i
  rw[hok,hR] at KE;rw[A6 rfl];obtain⟨N,rfl⟩:∃ N:Nat,n=(N:Int):=⟨n.toNat,by omega⟩;rw[Cy] at KE |-;generalize ZE s k.toNat=S at KE a0 |-;go_enter func101,ntmps101
  go_wp2_with fail
  refine Ax KE.out ?_;rintro e w1 ⟨v,rfl,⟨aE,cE,rfl,O1⟩,b1⟩;have A1:=jI.at O1;go_wp2_with fail
  refine Ax (jNb k aE N cE S _ A1 (by omega) (fun i _=>by have:=a0 i;omega)) ?_;rintro e w2 ⟨v2,rfl,⟨a2,c2,A2,C2,rfl,O2⟩,b2⟩;have b0:=hd (O2.base b1.size);go_wp2
  go_ret2
  exact⟨_,rfl,⟨_,_,_,_,rfl,b0⟩,jA b1 b2⟩
theorem jC1 (s:Sy) (a9 b9:OA) (c9 d9:Nat) (w:Ad) (h9:jL w a9 s.p.m s.p.S) (k9:jL w b9 s.p.m s.p.S) (hs:s.p.m<=1048576):CB 90 #[syV s (V a9 s.p.m c9),syV s (V b9 s.p.m d9)] w Aw:=by
 obtain⟨sk,sf,st,sr,p⟩:=s;obtain⟨rr,kk,nn,ii,bb,m,S⟩:=p;simp only at h9 k9 hs;obtain⟨w0,b0⟩:=nmH ((w.alloc (J (syC ⟨sk,sf,st,sr,⟨rr,kk,nn,ii,bb,m,S⟩⟩ (V a9 m c9)) 31)).alloc (J (syC ⟨sk,sf,st,sr,⟨rr,kk,nn,ii,bb,m,S⟩⟩ (V b9 m d9)) 31));have a0:=bl2 b0;have c0:=hd a0;have KP:H _:=jC0 rr kk nn ii bb a9 b9 m c9 d9 S w0 (h9.below a0) (k9.below a0) hs;have f0:(sr.toList !=sr.toList)=Av:=by simp
 have d0:=vD sr;have f1:(sk !=sk)=Av:=by simp
 have f2:(sf !=sf)=Av:=by simp
 have f3:(st !=st)=Av:=by simp
 go_enter func90,ntmps90
 go_wp2_with fail
 rw[<-b0.out];refine CM KP.out fun w1 b1=>?_
 go_wp2
 go_ret
 exact⟨rfl,jA c0 b1⟩
theorem jHj (a b:OA) (n ca cb:Nat) (S:Nat->Sy) (w:Ad) (ha:Rd w (qI n S) (V a n ca)) (hb:Rd w (qI n S) (V b n cb)) (hn:n<=1048576) (hs:∀ i,i<n->(S i).p.m<=1048576):CB 89 #[V a n ca,V b n cb] w Aw:=by
 have KH:H (Rd w (qI n S) (V a n ca)/\Rd w (qI n S) (V b n cb)):=⟨ha,hb⟩;have HS:H (∀ i,i<n->(S i).p.m<=1048576):=hs;have j0:((n:Int) !=(n:Int))=Av:=by simp
 clear ha hb hs;go_enter func89,ntmps89
 go_wp2
 go_loopw [5] (fun vi wr=>∃ c:Nat,c<=n/\vi=Ao Ar (c:Int)/\Ab w w wr) (fun vi _=>n-(intOf vi).toNat)
 case atStart=>exact⟨0,Bi _,rfl,Az _ _⟩
 case round=>
  obtain⟨c,h0,rfl,a0⟩:=hrel;by_cases hlt:c<n
  .have i0:(c:Int)<(n:Int):=by omega
   obtain⟨b1,f1,y1,p9,q9,rfl,c0,e1,f0⟩:=jCa (KH.1.below a0) hlt;obtain⟨b2,f2,y2,s9,t9,rfl,d0,e2,g0⟩:=jCa (KH.2.below a0) hlt;have e0:=HS c hlt;have KT:H (∀ W,Ab wr.1.size wr W->CB 90 #[jRc y1,jRc y2] W Aw):=fun W hW=>by
    rw[e1,e2];exact jC1 (S c) p9 s9 q9 t9 W (f0.below hW) (g0.below hW) e0
   have KS:H (∀ W,Ab wr.1.size wr W->W.cell? (Q b1 (f1+c*10) I)=M (y1 0)/\(∀ q,q<10->W.cell? (Q b1 (f1+c*10+q) I)=M (y1 q))/\W.cell? (Q b2 (f2+c*10) I)=M (y2 0)/\(∀ q,q<10->W.cell? (Q b2 (f2+c*10+q) I)=M (y2 q))):=fun W hW=>jCh W hW c0 d0
   have KB:=hd a0;have hdr:=jD wr;clear c0 d0 f0 g0 a0 e1 e2 e0;go_wp2_with fail
   go_region_held3 (fun w'=>w'.cell? (Q b1 (f1+c*10) I)=M (y1 0)/\(∀ q,q<10->w'.cell? (Q b1 (f1+c*10+q) I)=M (y1 q))/\w'.cell? (Q b2 (f2+c*10) I)=M (y2 0)/\(∀ q,q<10->w'.cell? (Q b2 (f2+c*10+q) I)=M (y2 q))) (exact KS _ (by assumption)) ((go_at_call 90;refine Ax (KT _ hdr) ?_;rintro e w7 ⟨rfl,b0⟩;have b7:=jC b0;clear b0))
   all_goals
    have HB7:=hd (jA KB b7);clear b7;go_wp2
    go_roundw
    case rel=>exact⟨c+1,by omega,by go_num,HB7.out⟩
    case measure=>simp[intOf];omega
  .go_wp2
   go_ret
   exact⟨rfl,a0⟩
def seB (id f:Int):Bool:=decide (1<=f/\f<=3/\0<=id/\id<3*f+1)
def fB (f:Int):Bool:=decide (1<=f/\f<=3)
abbrev ndV (id f:Int) (v:Aj):Aj:=Ai #[id,f,v]
theorem jBf {f:Int} (h:1<=f/\f<=3):IntKind.i64.wrap (3*f)=3*f/\IntKind.i64.wrap (3*f+1)=3*f+1:=by
 constructor <;> (rw[A8];omega)
theorem jEv (f:Int) (w:Ad):CS 71 #[f] w (fB f):=by
 by_cases h1:1<=f
 .by_cases h2:f<=3
  .have e:fB f=Aw:=Bf ⟨h1,h2⟩;rw[e];go_enter func71,ntmps71
   go_wp2
   go_ret
   exact⟨rfl,rfl⟩
  .have e:fB f=Av:=Bg (fun h=>h2 h.2);rw[e];go_enter func71,ntmps71
   go_wp2
   go_ret
   exact⟨rfl,rfl⟩
 .have e:fB f=Av:=Bg (fun h=>h1 h.1);rw[e];go_enter func71,ntmps71
  go_wp2
  go_ret
  exact⟨rfl,rfl⟩
theorem vH (f:Int) (w:Ad) (h:1<=f/\f<=3):CS 72 #[f] w (3*f+1:Int):=by
 obtain⟨e1,e2⟩:=jBf h;go_enter func72,ntmps72
 go_wp2
 go_ret
 exact⟨rfl,rfl⟩
theorem QW (f:Int) (w:Ad) (h:1<=f/\f<=3):CS 158 #[f] w (f+1:Int):=by
 have e1:IntKind.i64.wrap (f+1)=f+1:=by rw[A8];omega
 go_enter func158,ntmps158
 go_wp2
 go_ret
 exact⟨rfl,rfl⟩
theorem vR (f:Int) (w:Ad) (h:1<=f/\f<=3):CS 50 #[f] w (3*f+1:Int):=by
 obtain⟨e1,e2⟩:=jBf h;go_enter func50,ntmps50
 go_wp2
 go_ret
 exact⟨rfl,rfl⟩
theorem jAd (id f x:Int) (v:Aj) (w:Ad) (h:1<=f/\f<=3):CB 107 #[ndV id f v,x] w (decide (0<=x/\x<3*f+1)):=by
 have KN:H (∀ W,CS 72 #[f] W (3*f+1:Int)):=fun W=>vH f W h
 have KB:H (Ab w w (w.alloc (J #[id,f,v] 26))):=(Az _ _).alloc (Ay _) _;obtain⟨m,HM⟩:=nnH (3*f+1);rw[HM.out] at KN |-;by_cases h1:0<=x
 .have a0:x≥0:=h1;by_cases h2:x<m
  .have e:decide (0<=x/\x<m)=Aw:=Bf ⟨h1,h2⟩;rw[e];go_enter func107,ntmps107
   go_wp2_with (go_at_call 72;refine Ax (KN _) ?_;rintro e w' ⟨rfl,hw⟩;obtain rfl:=hw.symm;clear hw)
   go_ret
   exact⟨rfl,KB⟩
  .have e:decide (0<=x/\x<m)=Av:=Bg (fun h=>h2 h.2);rw[e];go_enter func107,ntmps107
   go_wp2_with (go_at_call 72;refine Ax (KN _) ?_;rintro e w' ⟨rfl,hw⟩;obtain rfl:=hw.symm;clear hw)
   go_ret
   exact⟨by simp[h2],KB⟩
 .have a0:¬ x≥0:=h1;have e:decide (0<=x/\x<m)=Av:=Bg (fun h=>h1 h.1);rw[e];go_enter func107,ntmps107
  go_wp2_with (go_at_call 72;refine Ax (KN _) ?_;rintro e w' ⟨rfl,hw⟩;obtain rfl:=hw.symm;clear hw)
  go_ret
  exact⟨rfl,KB⟩
theorem jC9 (id f:Int) (v:Aj) (w:Ad):CB 57 #[ndV id f v] w (seB id f):=by
 obtain⟨w0,a0⟩:=nmH (w.alloc (J #[id,f,v] 26));have KB:H (Ab w w w0):=by show Ab _ _ _;rw[a0.out];exact(Az _ _).alloc (Ay _) _
 obtain⟨A,HA⟩:=nmH w.1.size;have HR:=jZ a0 HA;have KF:H (∀ W,CS 71 #[f] W (fB f)):=jEv f;by_cases hf:1<=f/\f<=3
 .have e:fB f=Aw:=Bf hf;have HE:H (decide (0<=id/\id<3*f+1)=seB id f):=by
   show _=_;unfold seB;simp[hf.1,hf.2]
  have KK:H (CB 107 #[ndV id f v,id] w0 (seB id f)):=by
   have:=jAd id f id v w0 hf
   rw[HE.out] at this;exact this
  rw[e] at KF;obtain⟨x0,x1,x2⟩:=HR.out.c3 0 1 2;simp at x0 x1 x2;go_enter func57,ntmps57
  go_wp2_with fail
  rw[<-a0.out,<-HA.out];refine CM (KF.out _) fun w' hw=>?_
  obtain rfl:=hw.symm;clear hw;go_wp2_with fail
  refine CM KK.out fun w1 b1=>?_
  go_wp2
  go_ret
  exact⟨rfl,jA KB.out b1⟩
 .have e:fB f=Av:=Bg hf;have e2:seB id f=Av:=Bg (fun h=>hf ⟨h.1,h.2.1⟩);rw[e] at KF;rw[e2];go_enter func57,ntmps57
  go_wp2_with fail
  rw[<-a0.out,<-HA.out];refine CM (KF.out _) fun w' hw=>?_
  obtain rfl:=hw.symm;clear hw;go_wp2
  go_ret
  exact⟨rfl,KB.out⟩
def szN (l x:Nat):Int:=if x<=l then ((l-x:Nat):Int) else -1
theorem qE {l x:Nat} (h:x<=l):szN l x=((l-x:Nat):Int):=A6 h
theorem qD {l x:Nat} (h:¬ x<=l):szN l x = -1:=A5 h
def wtP (p:Pc):Nat:=p.r.size+p.b.size+(p.m+tot (fun i=>(p.S i).size) p.m)
def wtS (s:Sl):Nat:=s.r.size+wtP s.p+s.ze.length+s.zr.length
theorem jLp (p:Pc) (l:Nat):jQt p.r p.b p.m p.S l=szN l (wtP p):=by
 by_cases h:wtP p<=l
 .rw[qE h];exact jNs h
 .rw[qD h];exact jQu h
structure SlI (w:Ad) (s:Sl) (a6:OA):Prop where
 r:s.r.size<=Au
 pr:s.p.r.size<=Au
 pb:s.p.b.size<=Au
 tx:jPe w a6 s.p.m s.p.S
 ne:s.ze.length<=Au
 nr:s.zr.length<=Au
theorem jFn (a:OA) (n cap l:Nat) (w:Ad) (hn:n<=Au) (hl:l<=1048576):CS 80 #[V a n cap,(l:Int)] w (szN l n):=by
 unfold Au at hn;by_cases h:n<=l
 .rw[qE h];obtain⟨d,hd⟩:∃ d,l-n=d:=⟨_,rfl⟩;rw[hd];have e:IntKind.i64.wrap ((l:Int)-(n:Int))=(d:Int):=by rw[A8];omega
  have h0:¬ ((d:Int)<0):=by omega
  go_enter func80,ntmps80
  go_wp2
  go_ret
  exact⟨rfl,rfl⟩
 .rw[qD h];have e:IntKind.i64.wrap ((l:Int)-(n:Int))=(l:Int)-(n:Int):=by rw[A8];omega
  have h0:(l:Int)-(n:Int)<0:=by omega
  go_enter func80,ntmps80
  go_wp2
  go_ret
  exact⟨rfl,rfl⟩
theorem jNt (s:Sl) (a6 h0 i0:OA) (c6 j0 k0 l:Nat) (w:Ad) (h:SlI w s a6) (hl:l<=1048576):CB 192 #[slV s (V a6 s.p.m c6) (V h0 s.ze.length j0) (V i0 s.zr.length k0),(l:Int)] w (szN l (wtS s)):=by
 obtain⟨r,p,fh,fe,fd,fo,ze,zr⟩:=s;obtain⟨hr,s0,r0,e0,p0,q0⟩:=h;simp only at hr s0 r0 e0 p0 q0;have u0:H (wtS ⟨r,p,fh,fe,fd,fo,ze,zr⟩=r.size+wtP p+ze.length+zr.length):=rfl;rw[u0.out];simp only
 obtain⟨A,HA⟩:=nmH w.1.size;obtain⟨w0,a0⟩:=nmH (w.alloc (J (slC ⟨r,p,fh,fe,fd,fo,ze,zr⟩ (V a6 p.m c6) (V h0 ze.length j0) (V i0 zr.length k0)) 228));have RA:=jZ a0 HA;have n0:=bl1 a0;have c0:H (Ab w w w0):=n0;have KP:H (∀ l1:Nat,l1<=1048576->CB 143 #[pcV p.r p.k p.n p.i p.b (V a6 p.m c6),(l1:Int)] w0 (szN l1 (wtP p))):=fun l1 h1=>by
  rw[<-jLp];exact jGz p.r p.k p.n p.i p.b a6 p.m c6 p.S l1 w0 (e0.1.below n0) h1 e0.2.1 e0.2.2 s0 r0
 have KE:H (∀ (l1:Nat) W,l1<=1048576->CS 80 #[V h0 ze.length j0,(l1:Int)] W (szN l1 ze.length)):=fun l1 W h1=>jFn h0 _ j0 l1 W p0 h1
 have KZ:H (∀ (l1:Nat) W,l1<=1048576->CS 80 #[V i0 zr.length k0,(l1:Int)] W (szN l1 zr.length)):=fun l1 W h1=>jFn i0 _ k0 l1 W q0 h1
 obtain⟨pr,pk,pn,pi,pb,m,S⟩:=p;simp only at *;obtain⟨x,hx⟩:∃ x,r.size=x:=⟨_,rfl⟩;rw[hx] at hr |-;unfold Au at hr;generalize ze.length=le at *;generalize zr.length=lr at *;generalize wtP ⟨pr,pk,pn,pi,pb,m,S⟩=wp at *;clear s0 r0 e0 p0 q0 n0 u0;by_cases h1:x<=l
 case neg=>
  rw[qD (by omega)];have e1:IntKind.i64.wrap ((l:Int)-(x:Int))=(l:Int)-(x:Int):=by rw[A8];omega
  have n1:(l:Int)-(x:Int)<0:=by omega
  go_enter func192,ntmps192
  go_wp2
  go_ret
  exact⟨rfl,by rw[<-a0.out];exact c0.out⟩
 obtain⟨l1,m0⟩:∃ l1,l=x+l1:=⟨l-x,by omega⟩;have e1:IntKind.i64.wrap ((l:Int)-(x:Int))=(l1:Int):=by rw[A8];omega
 have n1:¬ ((l1:Int)<0):=by omega
 have b0:H _:=KP.out l1 (by omega);by_cases h2:wp<=l1
 case neg=>
  rw[qD (by omega)];rw[qD h2] at b0;clear m0;go_enter func192,ntmps192
  go_wp2_with fail
  rw[<-a0.out];refine CM b0.out fun w1 b1=>?_
  go_wp2
  go_ret
  exact⟨rfl,jA c0.out b1⟩
 obtain⟨l2,o0⟩:∃ l2,l1=wp+l2:=⟨l1-wp,by omega⟩;have n2:¬ ((l2:Int)<0):=by omega
 rw[qE h2,show l1-wp=l2 by omega] at b0;have d0:H (∀ W,_):=fun W=>KE.out l2 W (by omega)
 by_cases h3:le<=l2
 case neg=>
  rw[qD (by omega)];rw[qD h3] at d0;clear m0 o0;go_enter func192,ntmps192
  go_wp2_with fail
  rw[<-a0.out,<-HA.out];refine CM b0.out fun w1 b1=>?_
  have f0:=(RA.out.below b1 RA.out.lt).cell 11;simp at f0;go_wp2_with fail
  refine CM (d0.out _) fun w2 hw=>?_
  obtain rfl:=hw.symm;clear hw;go_wp2
  go_ret
  exact⟨rfl,jA c0.out b1⟩
 obtain⟨l3,v0⟩:∃ l3,l2=le+l3:=⟨l2-le,by omega⟩;have n3:¬ ((l3:Int)<0):=by omega
 rw[qE h3,show l2-le=l3 by omega] at d0;have g0:H (∀ W,_):=fun W=>KZ.out l3 W (by omega)
 by_cases h4:lr<=l3
 case neg=>
  rw[qD (by omega)];rw[qD h4] at g0;clear m0 o0 v0;go_enter func192,ntmps192
  go_wp2_with fail
  rw[<-a0.out,<-HA.out];refine CM b0.out fun w1 b1=>?_
  have f0:=(RA.out.below b1 RA.out.lt).cell 11;have t0:=(RA.out.below b1 RA.out.lt).cell 12;simp at f0 t0;go_wp2_with fail
  refine CM (d0.out _) fun w2 hw=>?_
  obtain rfl:=hw.symm;clear hw;go_wp2_with fail
  refine CM (g0.out _) fun w3 hw=>?_
  obtain rfl:=hw.symm;clear hw;go_wp2
  go_ret
  exact⟨rfl,jA c0.out b1⟩
 obtain⟨l4,x0⟩:∃ l4,l3=lr+l4:=⟨l3-lr,by omega⟩;have n4:¬ ((l4:Int)<0):=by omega
 rw[qE h4,show l3-lr=l4 by omega] at g0;rw[qE (by omega),show l-(x+wp+le+lr)=l4 by omega];clear m0 o0 v0 x0;go_enter func192,ntmps192
 go_wp2_with fail
 rw[<-a0.out,<-HA.out];refine CM b0.out fun w1 b1=>?_
 have f0:=(RA.out.below b1 RA.out.lt).cell 11;have t0:=(RA.out.below b1 RA.out.lt).cell 12;simp at f0 t0;go_wp2_with fail
 refine CM (d0.out _) fun w2 hw=>?_
 obtain rfl:=hw.symm;clear hw;go_wp2_with fail
 refine CM (g0.out _) fun w3 hw=>?_
 obtain rfl:=hw.symm;clear hw;go_wp2
 go_ret
 exact⟨rfl,jA c0.out b1⟩
structure SlB (s:Sl):Prop where
 r:s.r.size<=Au
 pr:s.p.r.size<=Au
 pb:s.p.b.size<=Au
 m:s.p.m<=Au
 tx:∀ i,i<s.p.m->(s.p.S i).size<=Au
 ne:s.ze.length<=Au
 nr:s.zr.length<=Au
theorem SlB.i {s:Sl} (h:SlB s) {w:Ad} {a6:OA} (ht:jL w a6 s.p.m s.p.S):SlI w s a6:=⟨h.r,h.pr,h.pb,⟨ht,h.m,h.tx⟩,h.ne,h.nr⟩
def wtL (n:Nat) (S:Nat->Sl):Nat:=n+tot (fun i=>wtS (S i)) n
theorem Tryz.infoSlL:(Tryz.prog.info? 228).map (·.size)=M 13:=by kernel_rfl
theorem jLq (a:OA) (n cap:Nat) (S:Nat->Sl) (l:Nat) (w:Ad) (h:Rd w (qH n S) (V a n cap)) (hl:l<=1048576) (hn:n<=Au) (hL:∀ i,i<n->SlB (S i)):CB 171 #[V a n cap,(l:Int)] w (szN l (wtL n S)):=by
 unfold Au at hn;by_cases h1:n<=l
 .obtain⟨d,hd⟩:∃ d,l-n=d:=⟨_,rfl⟩;have hw:IntKind.i64.wrap ((l:Int)-(n:Int))=(d:Int):=by rw[A8];omega
  have h0:¬ ((d:Int)<0):=by omega
  have KL:H (∀ i,i<n->SlB (S i)):=hL;have KH:H (Rd w (qH n S) (V a n cap)):=h;clear hL h;go_enter func171,ntmps171
  go_wp2
  go_loopw [1,5] (fun p i wr=>∃ c q:Nat,c<=n/\q<=1048576/\H (tot (fun i=>wtS (S i)) c+q=d)/\p=Ao Ar (q:Int)/\i=Ao Ar (c:Int)/\Ab w w wr) (fun _ i _=>n-(intOf i).toNat)
  case atStart=>exact⟨0,d,Bi _,by omega,by show 0+d=d;omega,rfl,rfl,Az _ _⟩
  case round=>
   obtain⟨c,q,hc,hq,HT,rfl,rfl,a0⟩:=hrel;clear hw h0;by_cases hlt:c<n
   .obtain⟨b1,f1,y1,p6,n0,o0,q6,p0,q0,rfl,f0,e1,g0,j0,m0⟩:=vJ (KH.below a0) hlt;have i0:=jEc (fun i=>wtS (S i)) hlt;have r0:(c:Int)<(n:Int):=by omega
    have e0:=HT.out;obtain⟨lc,c0⟩:=nnH (wtS (S c));have d0:H (tot (fun i=>wtS (S i)) (c+1)=tot (fun i=>wtS (S i)) c+lc):=by rw[<-c0.out];rfl
    have b0:tot (fun i=>wtS (S i)) c+lc<=tot (fun i=>wtS (S i)) n:=by rw[<-c0.out];exact i0
    have KZ:H (CB 192 #[jFy y1,(q:Int)] wr (szN q lc)):=by
     rw[e1,<-c0.out];exact jNt (S c) p6 n0 o0 q6 p0 q0 q wr ((KL c hlt).i g0) hq
    obtain⟨_,x⟩:=zK (sz:=12) wr (Az _ _) f0;have R1:H (wr.rangeAt b1 (f1+c*13) [y1 0,y1 1,y1 2,y1 3,y1 4,y1 5,y1 6,y1 7,y1 8,y1 9,y1 10,y1 11,y1 12]):=XK x;have KB:H (Ab w w wr):=a0;clear i0 f0 e1 g0 j0 m0 x a0;by_cases h2:lc<=q
    .obtain⟨q',k0⟩:∃ q',q-lc=q':=⟨_,rfl⟩;have h3:¬ ((q':Int)<0):=by omega
     have HT2:H (tot (fun i=>wtS (S i)) (c+1)+q'=d):=by show _=_;rw[d0.out];omega
     have hq2:q'<=1048576:=by omega
     rw[qE h2,k0] at KZ;clear HT e0 b0 d0;go_wp2_with (refine Bv rfl 228 _ rfl b1 (f1+c*13) rfl _ _ R1 underlying228 rfl Tryz.infoSlL ?_)
     refine CM KZ.out fun w1 bb=>?_
     have KB1:H (Ab w w w1):=jA KB bb;clear bb KZ R1;go_wp2
     go_roundw
     case rel=>exact⟨c+1,q',by omega,hq2,HT2,rfl,by go_num,KB1.out⟩
     case measure=>simp[intOf] <;> omega
    .have HR:H (szN l (wtL n S) = -1):=qD (by unfold wtL;omega);rw[qD h2] at KZ;clear HT e0 b0 d0;go_wp2_with (refine Bv rfl 228 _ rfl b1 (f1+c*13) rfl _ _ R1 underlying228 rfl Tryz.infoSlL ?_)
     refine CM KZ.out fun w1 bb=>?_
     have KB1:H (Ab w w w1):=jA KB bb;clear bb KZ R1;go_wp2
     go_ret
     exact⟨jS HR.symm,KB1⟩
   .obtain rfl:c=n:=by omega
    have HR:H (szN l (wtL c S)=(q:Int)):=by
     have:=HT.out
     have e:l-(c+tot (fun i=>wtS (S i)) c)=q:=by omega
     exact(qE (by unfold wtL;omega)).trans (by unfold wtL;rw[e])
    clear KH;go_wp2
    go_ret
    exact⟨jS HR.symm,a0⟩
 .have h0:(l:Int)-(n:Int)<0:=by omega
  have hw:IntKind.i64.wrap ((l:Int)-(n:Int))=(l:Int)-(n:Int):=by rw[A8];omega
  have HR:H (szN l (wtL n S) = -1):=qD (by unfold wtL;omega);clear h hL;go_enter func171,ntmps171
  go_wp2
  go_ret
  exact⟨jS HR.symm,Az _ _⟩
theorem jNp (id f:Int) (a:OA) (n cap:Nat) (S:Nat->Sl) (l:Nat) (w:Ad) (h:Rd w (qH n S) (V a n cap)) (hl:l<=1048576) (hn:n<=Au) (hL:∀ i,i<n->SlB (S i)):CB 142 #[Ai #[id,f,V a n cap],(l:Int)] w (szN l (wtL n S)):=by
 obtain⟨w0,a0⟩:=nmH (w.alloc (J #[id,f,V a n cap] 190));have b0:=bl1 a0;have c0:=hd b0;have KZ:H _:=jLq a n cap S l w0 (h.below b0) hl hn hL;by_cases h1:wtL n S<=l
 obtain⟨d,hd⟩:∃ d,l-wtL n S=d:=⟨_,rfl⟩;rw[qE h1,hd] at KZ;rw[qE h1,hd];have h0:¬ ((d:Int)<0):=by omega
 rotate_left;rw[qD h1] at KZ;rw[qD h1];rotate_left;all_goals
  go_enter func142,ntmps142
  go_wp2_with fail
  rw[<-a0.out];refine CM KZ.out fun w1 b1=>?_
  go_wp2
  go_ret
  exact⟨rfl,jA c0 b1⟩
def ZD (f:Int) (zs:List Int):Prop:=∀ i,i<zs.length->(0<=zs.getD i 0/\zs.getD i 0<3*f+1)/\(0<i->zs.getD (i-1) 0<zs.getD i 0)
noncomputable def JI (f:Int) (zs:List Int):Bool:=@decide (ZD f zs) (Classical.propDecidable _)
theorem JJ {f:Int} {zs:List Int} (h:ZD f zs):JI f zs=Aw:=by unfold JI;exact @Bf _ (Classical.propDecidable _) h
theorem jAf {f:Int} {zs:List Int} (h:¬ ZD f zs):JI f zs=Av:=by unfold JI;exact @Bg _ (Classical.propDecidable _) h
theorem zT (id f:Int) (v:Aj) (a:OA) (n cap:Nat) (zs:List Int) (w:Ad) (h:jH w a n zs) (hf:1<=f/\f<=3) (hn:n<=1048576):CB 117 #[ndV id f v,V a n cap] w (JI f zs):=by
 obtain⟨A,HA⟩:=nmH w.1.size;obtain⟨w0,e0⟩:=nmH (w.alloc (J #[id,f,v] 26));have HR:=jZ e0 HA;have g0:=bl1 e0;have f0:H (Ab w w w0):=g0;have KI:H (jH w0 a n zs):=h.below g0;have hl:zs.length=n:=h.1;have KK:H (∀ x W,CB 107 #[ndV id f v,Ao Ar x] W (decide (0<=x/\x<3*f+1))):=fun x W=>jAd id f x v W hf
 clear h g0 hf;go_enter func117,ntmps117
 go_wp2
 rw[<-e0.out,<-HA.out];go_loopw [9] (fun vi wr=>∃ k:Nat,k<=n/\vi=Ao Ar (k:Int)/\H (∀ i,i<k->(0<=zs.getD i 0/\zs.getD i 0<3*f+1)/\(0<i->zs.getD (i-1) 0<zs.getD i 0))/\Ab w0 w0 wr) (fun vi _=>n-(intOf vi).toNat)
 case atStart=>exact⟨0,Bi _,rfl,fun i hi=>Bo hi (Bk _),Az _ _⟩
 case round=>
  obtain⟨k,hk,rfl,HP,a0⟩:=hrel;by_cases hlt:k<n
  .have n0:(k:Int)<(n:Int):=by omega
   obtain⟨b,off,rfl,hc⟩:=(KI.out.below a0).some (by omega);have b0:=hc k hlt;have R1:=HR.out.below a0 HR.out.lt;obtain⟨x0,x1,x2⟩:=R1.c3 0 1 2;simp at x0 x1 x2;have KB:H (Ab w0 w0 wr):=a0;have lb:=A7 b0;obtain⟨z,HZ⟩:=nnH (zs.getD k 0);rw[HZ.out] at b0;have KN:H _:=KK.out z wr;by_cases hz:0<=z/\z<3*f+1
   .rw[Bf hz] at KN;by_cases k0:k=0
    .subst k0;have HP2:H (∀ i,i<0+1->(0<=zs.getD i 0/\zs.getD i 0<3*f+1)/\(0<i->zs.getD (i-1) 0<zs.getD i 0)):=fun i hi=>by
      obtain rfl:i=0:=by omega
      rw[HZ.out];exact⟨hz,fun h=>Bo h (by omega)⟩
     simp only[Cp] at b0;clear hc R1 a0 hz HP;go_wp2_with fail
     refine CM KN.out fun w1 b1=>?_
     have KB1:H (Ab w0 w0 w1):=jA KB.out b1;clear b1 KN x0 x1 x2;go_wp2
     go_roundw
     case rel=>exact⟨0+1,by omega,by go_num,HP2,KB1.out⟩
     case measure=>simp[intOf];omega
    .have o0:(k:Int)>0:=by omega
     have c0:=hc (k-1) (by omega);obtain⟨k1,d0⟩:∃ k1,H (k=k1+1):=⟨k-1,by show k=_;omega⟩;have e1:IntKind.i64.wrap ((k:Int)-1)=(k1:Int):=by have:=d0.out;rw[A8];omega
     have j0:(k1:Int)<(n:Int):=by have:=d0.out;omega
     have m0:(0:Int)<=(k1:Int):=by omega
     rw[show k-1=k1 by have:=d0.out;omega] at c0;obtain⟨y,HY⟩:=nnH (zs.getD k1 0);rw[HY.out] at c0;by_cases hyz:y<z
     .have i0:¬ (y≥z):=by omega
      have HP2:H (∀ i,i<k+1->(0<=zs.getD i 0/\zs.getD i 0<3*f+1)/\(0<i->zs.getD (i-1) 0<zs.getD i 0)):=fun i hi=>by
       by_cases ei:i=k
       .subst ei;rw[show i-1=k1 by have:=d0.out;omega,HZ.out,HY.out];exact⟨hz,fun _=>hyz⟩
       .exact HP.out i (by omega)
      clear hc R1 a0 hz HP hyz;go_wp2_with fail
      refine CM KN.out fun w1 b1=>?_
      have h0:=(b1.cell (p:=Q b (off+k1) I) lb).trans c0;have KB1:H (Ab w0 w0 w1):=jA KB.out b1;clear b1 KN x0 x1 x2 c0 b0;go_wp2
      go_roundw
      case rel=>exact⟨k+1,by omega,by go_num,HP2,KB1.out⟩
      case measure=>simp[intOf];omega
     .have i0:y≥z:=by omega
      have HN:H (JI f zs=Av):=jAf fun h=>by
       have:=(h k (by omega)).2 (by omega)
       rw[show k-1=k1 by have:=d0.out;omega,HZ.out,HY.out] at this;omega
      clear hc R1 a0 hz HP hyz;go_wp2_with fail
      refine CM KN.out fun w1 b1=>?_
      have h0:=(b1.cell (p:=Q b (off+k1) I) lb).trans c0;have KB1:H (Ab w w w1):=jA f0.out (jA KB.out b1);clear b1 KN x0 x1 x2 c0 b0;go_wp2
      go_ret
      exact⟨jT HN.out.symm,KB1.out⟩
   .rw[Bg hz] at KN;have HN:H (JI f zs=Av):=jAf fun h=>hz (by have:=(h k (by omega)).1;rw[HZ.out] at this;exact this)
    clear hc R1 a0 hz HP;go_wp2_with fail
    refine CM KN.out fun w1 b1=>?_
    have KB1:H (Ab w w w1):=jA f0.out (jA KB.out b1);clear b1 KN x0 x1 x2 b0;go_wp2
    go_ret
    exact⟨jT HN.out.symm,KB1.out⟩
  .obtain rfl:k=n:=by omega
   have HN:H (JI f zs=Aw):=JJ fun i hi=>HP.out i (by omega)
   have KB1:H (Ab w w wr):=jA f0.out a0;clear a0;go_wp2
   go_ret
   exact⟨jT HN.out.symm,KB1.out⟩
theorem QU {H:Type} {enc:TypeId×Aj->H} {w:Ad} {base:Nat} {c0:Nat->Bool} {e0:Bool} {α:Type} (z:α) {T e sz:Nat} (t':Nat) (D:α->Nat->Dt) (Bd:α->Prop) (hu:Tryz.prog.underlying T=M (.slice e)) (hc:Tryz.prog.cellsOf e=sz) (m0:0<sz) (each:∀ {a0:Nat} {cs:List Aj} {x:DataW H×List MemPlace},DataW.trod enc prog w base c0 e0 a0 e cs=M x->∃ y:α,cs.length=sz/\(∀ q,q<sz->Rd w (D y q) (cs.getD q O))/\Bd y) {a0:Nat} {a:OA} {n c:Nat} {x:DataW H×List MemPlace} (h:DataW.trod enc prog w base c0 e0 a0 T [V a n c]=M x):∃ P:Nat->α,Rd w (.lst t' sz n fun i=>D (P i)) (V a n c)/\n<=Au/\∀ i,i<n->Bd (P i):=by
 rcases Go.Deep.open_slice hu h with ⟨b0,_⟩|⟨ad,len,cap,m,n',D',Pl,b0,hb,hl,hm,r0,_,hx⟩
 .simp at b0;obtain⟨rfl,rfl,rfl⟩:=b0;exact⟨fun _=>z,Rd.nil _ _ _ _ _ _,Bi _,fun i hi=>Bo hi (Bk _)⟩
 .simp at b0;obtain⟨rfl,rfl,rfl⟩:=b0;rw[hc] at hx;have w0:n<=m:=by rw[r0];split <;> omega
  obtain⟨b,off,f0⟩:=ad;have ea:∀ (b off i:Nat),((Q b off I):Al).add i=(Q b (off+i) I):=fun b off i=>by unfold Addr.add;split <;> simp_all
  have g0:∀ i,∃ p:α,i<n->f0=I/\(∀ q,q<sz->∃ y,w.cell? (Q b (off+(i*sz+q)) I)=M y/\Rd w (D p q) y)/\Bd p:=fun i=>by
   by_cases hi:i<n
   .obtain⟨n0,h1,h2⟩:=hx i (by omega);obtain⟨p,p0,s0,o0⟩:=each h2;obtain⟨_,u0,i0⟩:=World.cells?_some h1;have j0:f0=I:=by
     obtain⟨k0,g1,g2⟩:=hx 0 (by omega);obtain⟨_,q0,d0⟩:=World.cells?_some g1;have h0:=d0 0 m0;obtain⟨v0,t0⟩:∃ v,k0[0]?=M v:=⟨k0[0],Bj (by omega)⟩;rw[t0] at h0;simpa [Addr.add] using World.cell?_spot h0
    subst j0;refine⟨p,fun _=>⟨rfl,fun q hq=>⟨n0.getD q O,?_,s0 q hq⟩,o0⟩⟩;have h3:=i0 q hq;rw[ea,ea] at h3;rw[<-Ef,h3,Bx,Bj (by omega)];rfl
   .exact⟨z,fun h=>Bo h hi⟩
  obtain⟨P,hP⟩:=Ew g0;refine⟨P,⟨_,_,rfl,fun i hi=>?_⟩,by omega,fun i hi=>(hP i hi).2.2⟩;obtain⟨hs,h1,_⟩:=hP i hi;subst hs;exact⟨b,off,rfl,h1⟩
theorem zX {H:Type} {enc:TypeId×Aj->H} {w:Ad} {base:Nat} {c0:Nat->Bool} {e0:Bool} {d0:Nat} {v:Aj} {x:DataW H×List MemPlace} (h:DataW.trod enc prog w base c0 e0 d0 40 [v]=M x):∃ (a:OA) (zs:List Int) (c:Nat),v=V a zs.length c/\jH w a zs.length zs/\zs.length<=Au:=by
 rcases open_ints Ec Dd (by kernel_rfl) h with ⟨a0,_⟩|⟨ad,l,c,zs,a0,_,hl,hm,hz,_,b0,f0⟩
 .simp at a0;subst a0;exact⟨I,[],0,rfl,⟨rfl,fun i hi=>Bo hi (Bk _)⟩,Bi _⟩
 .simp at a0;subst a0;have hR:jPd Ar w (M ad) l zs.length zs:=.inr ⟨_,rfl,by rw[hz];split <;> omega,by rw[hz];split <;> omega,rfl,b0,f0⟩;obtain⟨_,hi,_⟩:=hR.ints;have e:=hi.1;refine⟨M ad,zs.take l,c,by rw[e],?_,by rw[e];omega⟩;rw[e];exact hi
theorem jRt {α:Type} (l:List α) (h:l.length=13):∃ c0 c1 c2 c3 c4 c5 c6 c7 c8 c9 c10 c11 c12,l=[c0,c1,c2,c3,c4,c5,c6,c7,c8,c9,c10,c11,c12]:=by
 match l,h with
 | [c0,c1,c2,c3,c4,c5,c6,c7,c8,c9,c10,c11,c12],_=>exact⟨c0,c1,c2,c3,c4,c5,c6,c7,c8,c9,c10,c11,c12,rfl⟩
theorem jS3 {α:Type} (l:List α) (h:l.length=8):∃ c0 c1 c2 c3 c4 c5 c6 c7,l=[c0,c1,c2,c3,c4,c5,c6,c7]:=by
 match l,h with
 | [c0,c1,c2,c3,c4,c5,c6,c7],_=>exact⟨c0,c1,c2,c3,c4,c5,c6,c7,rfl⟩
theorem jRu {α:Type} (l:List α) (h:l.length=3):∃ c0 c1 c2,l=[c0,c1,c2]:=by
 match l,h with
 | [c0,c1,c2],_=>exact⟨c0,c1,c2,rfl⟩
theorem jKi {H:Type} {enc:TypeId×Aj->H} {w:Ad} {base:Nat} {a0:Nat->Bool} {d0:Bool} {b0:Nat} {cs:List Aj} {x:DataW H×List MemPlace} (h:DataW.trod enc prog w base a0 d0 b0 228 cs=M x):∃ s:Sl,cs.length=13/\(∀ q,q<13->Rd w (slD s q) (cs.getD q O))/\SlB s:=by
 have h0:Tryz.prog.cellsOf 228=13:=by kernel_rfl
 have k0:Tryz.prog.cellsOf 64=6:=by kernel_rfl
 have m0:Tryz.prog.cellsOf 9=1:=by kernel_rfl
 have i0:Tryz.prog.cellsOf 4=1:=by kernel_rfl
 have j0:Tryz.prog.cellsOf 40=1:=by kernel_rfl
 obtain⟨xs,f,_,_,hl,f0,hf⟩:=Ex underlying228 h;rw[h0] at hl;obtain⟨c0,c1,c2,c3,c4,c5,c6,c7,c8,c9,p0,q0,r0,rfl⟩:=jRt cs hl;obtain⟨y0,y1,y2,y3,y4,y5,y6,y7,rfl⟩:=jS3 xs f0;have g0:=hf 0 _ rfl;have g1:=hf 1 _ rfl;have g2:=hf 2 _ rfl;have g3:=hf 3 _ rfl;have g4:=hf 4 _ rfl;have g5:=hf 5 _ rfl;have g6:=hf 6 _ rfl;have g7:=hf 7 _ rfl;simp[m0,k0,i0,j0] at g0 g1 g2 g3 g4 g5 g6 g7;obtain⟨r,e0,_,hr⟩:=Fi C6 g0;obtain⟨pr,pk,pn,pi,pb,pa,pm,pc,pS,e1,_,o0,n0,ht⟩:=XJ g1;obtain⟨bh,e2,_⟩:=DataW.trod_bool underlying4 g2;obtain⟨be,e3,_⟩:=DataW.trod_bool underlying4 g3;obtain⟨bd,e4,_⟩:=DataW.trod_bool underlying4 g4;obtain⟨bo,e5,_⟩:=DataW.trod_bool underlying4 g5;obtain⟨a1,ze,z1,e6,i1,n1⟩:=zX g6;obtain⟨a2,zr,z2,e7,i2,n2⟩:=zX g7;simp at e0 e1 e2 e3 e4 e5;obtain⟨rfl,rfl,rfl,rfl,rfl,rfl⟩:=e1;subst e0 e2 e3 e4 e5 e6 e7;refine⟨⟨r,⟨pr,pk,pn,pi,pb,pm,pS⟩,bh,be,bd,bo,ze,zr⟩,rfl,fun q hq=>?_,⟨hr,o0,n0,ht.2.1,ht.2.2,n1,n2⟩⟩;match q,hq with
 | 0,_|1,_|2,_|3,_|4,_|5,_|7,_|8,_|9,_|10,_=>rfl
 | 6,_=>exact XX.2 ht.1
 | 11,_=>exact qL.2 i1
 | 12,_=>exact qL.2 i2
theorem jH2 {H:Type} {enc:TypeId×Aj->H} {w:Ad} {base:Nat} {a0:Nat->Bool} {c0:Bool} {b0:Nat} {a:OA} {n c:Nat} {x:DataW H×List MemPlace} (h:DataW.trod enc prog w base a0 c0 b0 188 [V a n c]=M x):∃ S:Nat->Sl,Rd w (qH n S) (V a n c)/\n<=Au/\∀ i,i<n->SlB (S i):=
 QU ⟨Ap,⟨Ap,0,0,0,Ap,0,fun _=>Ap⟩,Av,Av,Av,Av,[],[]⟩ 42 slD SlB underlying188 (by kernel_rfl) (by omega) jKi h
theorem jKg {H:Type} {enc:TypeId×Aj->H} {w:Ad} {base:Nat} {b0:Nat->Bool} {f0:Bool} {d0:Nat} {cs:List Aj} {x:DataW H×List MemPlace} (h:DataW.trod enc prog w base b0 f0 d0 190 cs=M x):∃ (id f:Int) (a:OA) (n c:Nat) (S:Nat->Sl),cs=[Ao Ar id,Ao Ar f,V a n c]/\Rd w (qH n S) (V a n c)/\n<=Au/\∀ i,i<n->SlB (S i):=by
 have c3:Tryz.prog.cellsOf 190=3:=by kernel_rfl
 have i0:Tryz.prog.cellsOf 3=1:=by kernel_rfl
 have j0:Tryz.prog.cellsOf 188=1:=by kernel_rfl
 obtain⟨xs,f,_,_,hl,h0,hf⟩:=Ex underlying190 h;rw[c3] at hl;obtain⟨c0,c1,c2,rfl⟩:=jRu cs hl;obtain⟨y0,y1,y2,rfl⟩:=jRu xs h0;have g0:=hf 0 _ rfl;have g1:=hf 1 _ rfl;have g2:=hf 2 _ rfl;simp[i0,j0] at g0 g1 g2;obtain⟨id,e0,_,u0⟩:=Dr Dd g0;obtain⟨ff,e1,_,u1⟩:=Dr Dd g1;simp at e0 e1;subst e0 e1;obtain⟨a,n,c,rfl⟩:∃ a n c,c2=V a n c:=by
  rcases Go.Deep.open_slice underlying188 g2 with ⟨a0,_⟩|⟨ad,len,cap,m,n',D',Pl,a0,_⟩
  .simp at a0;exact⟨I,0,0,a0⟩
  .simp at a0;exact⟨M ad,len,cap,a0⟩
 obtain⟨S,h1,h2,h3⟩:=jH2 g2;exact⟨id,ff,a,n,c,S,rfl,h1,h2,h3⟩
def plF (S:Nat->Sl) (root:BA):Nat->Nat->Option Nat
 | 0,_=>I
 | f+1,k=>if (S k).r=root then M k else plF S root f (k+1)
def plc (S:Nat->Sl) (root:BA) (n:Nat):Option Nat:=plF S root n 0
theorem xC {S:Nat->Sl} {a0:BA}:∀ {f k x:Nat},plF S a0 f k=M x->k<=x/\x<k+f/\(S x).r=a0/\∀ i,k<=i->i<x->(S i).r≠a0
 | 0,_,_,h=>by cases h
 | f+1,k,x,h=>by
  unfold plF at h;by_cases e:(S k).r=a0
  .rw[A6 e] at h;cases h;exact⟨Ay _,by omega,e,fun i h1 h2=>by omega⟩
  .rw[A5 e] at h;obtain⟨h1,h2,h3,h4⟩:=xC h;refine⟨by omega,by omega,h3,fun i hi hx=>?_⟩;by_cases ei:i=k
   .rw[ei];exact e
   .exact h4 i (by omega) hx
theorem ZK {S:Nat->Sl} {a0:BA}:∀ {f k:Nat},plF S a0 f k=I->∀ i,k<=i->i<k+f->(S i).r≠a0
 | 0,_,_,i,h1,h2=>by omega
 | f+1,k,h,i,h1,h2=>by
  unfold plF at h;by_cases e:(S k).r=a0
  .rw[A6 e] at h;cases h
  .rw[A5 e] at h;by_cases ei:i=k
   .rw[ei];exact e
   .exact ZK h i (by omega) (by omega)
def plX (S:Nat->Sl) (root:BA) (n:Nat):Int:=match plc S root n with
 | some x=>(x:Int)
 | none=>-1
def eqR (s root:BA):Bool:=decide (s=root)
theorem jJc {s a0:BA} (h:s=a0):eqR s a0=Aw:=Bf h
theorem jN8 {s a0:BA} (h:s≠a0):eqR s a0=Av:=Bg h
theorem jE6 (s:Sl) (v6 b0 c0:Aj) (R:Nat) (a0:BA) (w:Ad) (hR:w.cell? R=M (Ag a0)):CB 116 #[slV s v6 b0 c0,Af R] w (eqR s.r a0):=by
 have lR:=A7 hR;have KB:H (Ab w w (w.alloc (J (slC s v6 b0 c0) 42))):=(Az _ _).alloc (Ay _) _;by_cases h:s.r=a0
 .rw[jJc h];have hb:(s.r.toList==a0.toList)=Aw:=by rw[h];simp
  go_enter func116,ntmps116
  go_wp2
  go_ret
  exact⟨rfl,KB⟩
 .rw[jN8 h];have hb:=jEl h;go_enter func116,ntmps116
  go_wp2
  go_ret
  exact⟨rfl,KB⟩
theorem jJs (a:OA) (n cap:Nat) (S:Nat->Sl) (R:Nat) (a0:BA) (w:Ad) (h:Rd w (qH n S) (V a n cap)) (hn:n<=1048576) (hR:w.cell? R=M (Ag a0)):CB 115 #[V a n cap,.func (.func 116) #[] #[Af R]] w (plX S a0 n):=by
 have KH:=hd h;have KR:=hd hR;clear h hR;go_enter func115,ntmps115
 go_wp2
 go_loopw [8] (fun vi wr=>∃ k:Nat,k<=n/\vi=Ao Ar (k:Int)/\H (plF S a0 (n-k) k=plc S a0 n)/\Ab w w wr) (fun vi _=>n-(intOf vi).toNat)
 case atStart=>exact⟨0,Bi _,rfl,rfl,Az _ _⟩
 case round=>
  obtain⟨k,hk,rfl,HP,c0⟩:=hrel;by_cases hlt:k<n
  .have k0:(k:Int)<(n:Int):=by omega
   obtain⟨b1,f1,y1,p6,g0,h0,q6,i0,j0,rfl,f0,e1,_,_,_⟩:=vJ (KH.below c0) hlt;have e0:=(c0.cell (p:=R) (A7 KR)).trans KR;have KC:=jE6 (S k) (V p6 (S k).p.m q6) (V g0 (S k).ze.length i0) (V h0 (S k).zr.length j0) R a0 wr e0;rw[<-e1] at KC;have KF:H _:=KC;obtain⟨_,x⟩:=zK (sz:=12) wr (Az _ _) f0;have R1:=hd (XK x);have KB:=hd c0;have e2:n-k=(n-(k+1))+1:=by omega
   have b0:=HP.out;rw[e2] at b0;unfold plF at b0;clear KC f0 e1 x c0 e0 HP e2;by_cases hr:(S k).r=a0
   .rw[A6 hr] at b0;have HI:H (plX S a0 n=(k:Int)):=by show _=_;unfold plX;rw[<-b0]
    rw[jJc hr] at KF;clear b0 hr;go_wp2_with (refine Bv rfl 42 _ rfl b1 (f1+k*13) rfl [y1 0,y1 1,y1 2,y1 3,y1 4,y1 5,y1 6,y1 7,y1 8,y1 9,y1 10,y1 11,y1 12] _ ?_ C5 rfl Tryz.infoSl ?_;exact R1)
    refine CM KF.out fun w1 d0=>?_
    have KB1:=hd (jA KB d0);clear d0;go_wp2
    go_ret
    exact⟨jS HI.symm,KB1⟩
   .rw[A5 hr] at b0;have HP2:=hd b0;rw[jN8 hr] at KF;clear b0 hr;go_wp2_with (refine Bv rfl 42 _ rfl b1 (f1+k*13) rfl [y1 0,y1 1,y1 2,y1 3,y1 4,y1 5,y1 6,y1 7,y1 8,y1 9,y1 10,y1 11,y1 12] _ ?_ C5 rfl Tryz.infoSl ?_;exact R1)
    refine CM KF.out fun w1 d0=>?_
    have KB1:=hd (jA KB d0);clear d0 KF R1;go_wp2
    go_roundw
    case rel=>exact⟨k+1,by omega,by go_num,HP2,KB1.out⟩
    case measure=>simp[intOf];omega
  .obtain rfl:k=n:=by omega
   have HI:H (plX S a0 k = -1):=by
    have:=HP.out
    rw[Nat.sub_self] at this;show _=_;unfold plX;rw[<-this];rfl
   go_wp2
   go_ret
   exact⟨jS HI.symm,c0⟩
theorem QA (id f:Int) (a:OA) (n cap:Nat) (S:Nat->Sl) (a0:BA) (w:Ad) (h:Rd w (qH n S) (V a n cap)) (hn:n<=1048576):CB 58 #[ndV id f (V a n cap),a0] w (plX S a0 n):=by
 have e0:∀ (fn:Fn) (first cap:Array Aj) (w:Ad),(Instr.makeFunc fn first cap).run prog w=.ok (.func fn first cap) w:=fun _ _ _ _=>rfl
 obtain⟨R,HR⟩:=nmH (w.1.size+1);obtain⟨w0,b0⟩:=nmH ((w.alloc (J #[id,f,V a n cap] 26)).alloc (J #[a0] 9));have c0:=bl2 b0;have d0:=hd c0;have hc:w0.cell? R=M (Ag a0):=by rw[b0.out,HR.out];simp
 have KI:H _:=jJs a n cap S R a0 w0 (h.below c0) hn hc;go_enter func58,ntmps58
 go_wp2_with fail
 rw[<-b0.out,<-HR.out];refine CM KI.out fun w1 b1=>?_
 go_wp2
 go_ret
 exact⟨rfl,jA d0 b1⟩
def ofy (k:Nat) (S:Nat->Sy):Nat->Nat
 | 0=>k
 | i+1=>ofy k S i+9+(S i).p.m
theorem jGg (k:Nat) (S:Nat->Sy) {i j:Nat} (h:i<=j):ofy k S i<=ofy k S j:=by
 induction j with
 | zero => obtain rfl : i = 0 := by omega
           exact Ay _
 | succ j ih=>
  by_cases e:i=j+1
  .subst e;exact Ay _
  .have:=ih (by omega)
   show _<=ofy k S j+9+(S j).p.m;omega
def zG (k:Nat) (S:Nat->Sy) (i:Nat):Sy:=⟨((ofy k S i:Nat):Int),((ofy k S i+1:Nat):Int),((ofy k S i+2:Nat):Int),vT (ofy k S i+3),⟨vT (ofy k S i+4),((ofy k S i+5:Nat):Int),((ofy k S i+6:Nat):Int),((ofy k S i+7:Nat):Int),vT (ofy k S i+8),(S i).p.m,fun j=>vT (ofy k S i+9+j)⟩⟩
theorem vV {w:Ad} {B:Nat} {a:OA} {cap:Nat} {zs:List Int} {F:Nat->Prop} (h:w.ownsRow B 3 1 (V a zs.length cap) zs.length (zs.map (Ao Ar))) (hF:∀ x,a=M x->F x.block):Ow w B (inD zs) (V a zs.length cap) F:=by
 refine⟨a,cap,fun i _=>Ao Ar (zs.getD i 0),fun _ _ _=>False,rfl,?_,⟨hF,fun _ _ _ _ _ h=>h.elim,fun _ _ _ _ _ _ h=>h,fun _ _ _ _ _ _ _ _ _ h=>h.elim⟩,fun _ _ _ _=>rfl⟩;have:cL 1 (fun i _=>Ao Ar (zs.getD i 0)) zs.length=zs.map (Ao Ar):=by
  apply Co
  intro i;by_cases hi:i<zs.length
  .have:=jU 1 (fun i _=>Ao Ar (zs.getD i 0)) zs.length i 0 hi (by omega)
   rw[G4,Cp] at this;rw[this];simp[hi]
  .rw[Be (by rw[qB];omega),Be (by simp;omega)]
 rw[this];exact h
theorem JX {w:Ad} {B:Nat} {v:Aj} {zs:List Int} {F:Nat->Prop} (h:Ow w B (inD zs) v F):∃ a cap,v=V a zs.length cap/\w.ownsRow B 3 1 (V a zs.length cap) zs.length (zs.map (Ao Ar))/\∀ x,a=M x->F x.block:=by
 obtain⟨a,cap,c,G,e,ho,hs,hr⟩:=h;refine⟨a,cap,e,?_,hs.head⟩;have:cL 1 c zs.length=zs.map (Ao Ar):=by
  apply Co
  intro i;by_cases hi:i<zs.length
  .have:=jU 1 c zs.length i 0 hi (by omega)
   rw[G4,Cp] at this;rw[this];have h2:=hr i 0 hi (by omega);rw[h2];simp[hi]
  .rw[Be (by rw[qB];omega),Be (by simp;omega)]
 rw[<-this];exact ho
theorem qT (w:Ad) (g:Nat) (cs:Array Aj):w.grownBy (w.setRow g cs) (M g):=⟨rfl,rfl,rfl,by simp,fun i _ hi=>Cd _ _ _ _ (fun e=>hi (by simp[e]))⟩
theorem World.size_setCells (b:Nat):∀ (vs:List Aj) (o:Nat) (w:Ad),(w.setCells b o vs).1.size=w.1.size
 | [],_,_=>rfl
 | v::r,o,w=>by rw[World.setCells,World.size_setCells b r (o+1) _];simp
theorem jNz (s:Sl) (a6 j0 k0:OA) (c6 o0 p0:Nat) (w:Ad) (h6:jL w a6 s.p.m s.p.S) (o1:jH w j0 s.ze.length s.ze) (p1:jH w k0 s.zr.length s.zr) (hs:SlS s):Ak prog 193 #[slV s (.slice a6 s.p.m c6) (.slice j0 s.ze.length o0) (.slice k0 s.zr.length p0)] w fun e w'=>∃ g6 b0 c0:Nat,e=Ae (slV s (.slice g6 s.p.m s.p.m) (.slice b0 s.ze.length s.ze.length) (.slice c0 s.zr.length s.zr.length))/\w.1.size<=g6/\g6<b0/\b0<c0/\c0<w'.1.size/\Ow w' w (txD s.p.m s.p.S) (.slice g6 s.p.m s.p.m) (fun g=>g=g6)/\Ow w' w (inD s.ze) (.slice b0 s.ze.length s.ze.length) (fun g=>g=b0)/\Ow w' w (inD s.zr) (.slice c0 s.zr.length s.zr.length) (fun g=>g=c0)/\Ab w w w':=by
 obtain⟨r,p,fh,fe,fd,fo,ze,zr⟩:=s;obtain⟨pr,pk,pn,pi,pb,m,S⟩:=p;obtain⟨hm,he,hz⟩:=hs;simp only at h6 o1 p1 hm he hz |-;obtain⟨A,HA⟩:=nmH w.1.size;obtain⟨D,HD⟩:=nmH (w.1.size+1);obtain⟨V,HV⟩:=nmH (w.1.size+1+1);obtain⟨w0,f0⟩:=nmH (((w.alloc (J (slC ⟨r,⟨pr,pk,pn,pi,pb,m,S⟩,fh,fe,fd,fo,ze,zr⟩ (.slice a6 m c6) (.slice j0 ze.length o0) (.slice k0 zr.length p0)) 228)).alloc (J #[Zs,Zs,(),(),(),Zs,.slice I 0 0,Av,Av,Av,Av,.slice I 0 0,.slice I 0 0] 42)).alloc (J #[r,Zs,(),(),(),Zs,.slice I 0 0,Av,Av,Av,Av,.slice I 0 0,.slice I 0 0] 42));have RA:=zS f0 HA;have RD:=xV f0 HD;have RV:=zE f0 HV;have q1:=bl3 f0;have a0:H (V≠D/\A≠V/\A≠D/\w.1.size<=D/\w.1.size<=V/\V<w0/\D<w0):=by
  have h1:=HV.out;have h2:=HD.out;have h3:=HA.out;exact⟨by omega,by omega,by omega,by omega,by omega,RV.out.lt,RD.out.lt⟩
 have s0:=hd q1;have KP:H _:=jG1 pr pk pn pi pb a6 m c6 S w0 (h6.below q1) hm;have c1:H (∀ W,Ab w w W->Ak prog 84 #[.slice j0 ze.length o0] W fun e w'=>e=Ae (.slice (Q W.1.size 0 I) ze.length ze.length)/\w'.ownsRow W.1.size 3 1 (.slice (Q W.1.size 0 I) ze.length ze.length) ze.length (ze.map (Ao Ar))/\Ab W.1.size W w'):=fun W hW=>XP j0 _ o0 ze W (o1.below hW) he
 have e1:H (∀ W,Ab w w W->Ak prog 84 #[.slice k0 zr.length p0] W fun e w'=>e=Ae (.slice (Q W.1.size 0 I) zr.length zr.length)/\w'.ownsRow W.1.size 3 1 (.slice (Q W.1.size 0 I) zr.length zr.length) zr.length (zr.map (Ao Ar))/\Ab W.1.size W w'):=fun W hW=>XP k0 _ p0 zr W (p1.below hW) hz
 obtain⟨le,z0⟩:=nnH ze.length;obtain⟨lr,a1⟩:=nnH zr.length;have OI:H (∀ (B:Nat) (W:Ad) (g:Nat),W.ownsRow B 3 1 (.slice (Q g 0 I) le le) le (ze.map (Ao Ar))->Ow W B (inD ze) (.slice (Q g 0 I) le le) (fun x=>x=g)):=fun B W g ho=>by
  rw[<-z0.out] at ho |-;exact vV ho (fun x e=>by cases e;rfl)
 have OZ:H (∀ (B:Nat) (W:Ad) (g:Nat),W.ownsRow B 3 1 (.slice (Q g 0 I) lr lr) lr (zr.map (Ao Ar))->Ow W B (inD zr) (.slice (Q g 0 I) lr lr) (fun x=>x=g)):=fun B W g ho=>by
  rw[<-a1.out] at ho |-;exact vV ho (fun x e=>by cases e;rfl)
 rw[z0.out] at c1 RA f0 |-;rw[a1.out] at e1 RA f0 |-;go_enter func193,ntmps193
 go_wp2_with fail
 rw[<-f0.out,<-HV.out,<-HD.out,<-HA.out];refine Ax KP.out ?_;rintro e w1 ⟨g6,rfl,O6,b1⟩;have S6:=hd (A0 O6 g6 rfl);have A1:=RA.out.below b1 RA.out.lt;have D1:=hd (RD.out.below b1 RD.out.lt);have V1:=RV.out.below b1 RV.out.lt;obtain⟨x7,x8,x9,v0,x0⟩:=A1.c5 7 8 9 10 11;obtain⟨y1,y2,y3,y4,y5,y6⟩:=V1.c6 1 2 3 4 5 6;obtain⟨y7,y8,y9,y0⟩:=V1.c4 7 8 9 10;have f1:=V1.free 1;have f2:=V1.free 2;have f3:=V1.free 3;have f4:=V1.free 4;have f5:=V1.free 5;have f6:=V1.free 6;have f7:=V1.free 7;have f8:=V1.free 8;have f9:=V1.free 9;have g2:=V1.free 10;simp at x7 x8 x9 v0 x0 y1 y2 y3 y4 y5 y6 y7 y8 y9 y0;have TH:H (w1.there V 1 6):=fun j hj=>by
  match j,hj with
  | 0,_=>exact⟨by rw[y1];rfl,f1⟩
  | 1,_=>exact⟨by rw[y2];rfl,f2⟩
  | 2,_=>exact⟨by rw[y3];rfl,f3⟩
  | 3,_=>exact⟨by rw[y4];rfl,f4⟩
  | 4,_=>exact⟨by rw[y5];rfl,f5⟩
  | 5,_=>exact⟨by rw[y6];rfl,f6⟩
 obtain⟨wa,i0⟩:=nmH (w1.setCells V 1 (pcC pr pk pn pi pb (.slice g6 m m)).toList);have Va:H (Row wa V 42 #[r,pr,pk,pn,pi,pb,.slice g6 m m,Av,Av,Av,Av,.slice I 0 0,.slice I 0 0]):=by show Row _ _ _ _;rw[i0.out];exact((((((V1.set 1 _).set 2 _).set 3 _).set 4 _).set 5 _).set 6 _)
 have Aa:H (Row wa A 228 (slC ⟨r,⟨pr,pk,pn,pi,pb,m,S⟩,fh,fe,fd,fo,ze,zr⟩ (.slice a6 m c6) (.slice j0 le o0) (.slice k0 lr p0))):=by show Row _ _ _ _;rw[i0.out];exact((((((A1.other 1 _ a0.out.2.1).other 2 _ a0.out.2.1).other 3 _ a0.out.2.1).other 4 _ a0.out.2.1).other 5 _ a0.out.2.1).other 6 _ a0.out.2.1)
 have Da:H (Row wa D 42 #[Zs,Zs,(),(),(),Zs,.slice I 0 0,Av,Av,Av,Av,.slice I 0 0,.slice I 0 0]):=by show Row _ _ _ _;rw[i0.out];exact((((((D1.out.other 1 _ (Cj a0.out.1)).other 2 _ (Cj a0.out.1)).other 3 _ (Cj a0.out.1)).other 4 _ (Cj a0.out.1)).other 5 _ (Cj a0.out.1)).other 6 _ (Cj a0.out.1))
 have b2:H (jI wa w0 g6 m m S):=by show jI _ _ _ _ _ _;rw[i0.out];exact(jI.setFar (jI.setFar (jI.setFar (jI.setFar (jI.setFar (jI.setFar O6 a0.out.2.2.2.2.2.1) a0.out.2.2.2.2.2.1) a0.out.2.2.2.2.2.1) a0.out.2.2.2.2.2.1) a0.out.2.2.2.2.2.1) a0.out.2.2.2.2.2.1)
 have Ba:H (Ab w w wa):=by show Ab _ _ _;rw[i0.out];exact(Bn (Bn (Bn (Bn (Bn (Bn (jA s0.out b1) a0.out.2.2.2.2.1 _) a0.out.2.2.2.2.1 _) a0.out.2.2.2.2.1 _) a0.out.2.2.2.2.1 _) a0.out.2.2.2.2.1 _) a0.out.2.2.2.2.1 _)
 have k2:H (w1.1.size=wa.1.size):=by show _=_;rw[i0.out];exact(World.size_setCells _ _ _ _).symm
 obtain⟨x7,x8,x9,v0,x0⟩:=Aa.out.c5 7 8 9 10 11;obtain⟨y7,y8,y9,y0⟩:=Va.out.c4 7 8 9 10;have f7:=Va.out.free 7;have f8:=Va.out.free 8;have f9:=Va.out.free 9;have g2:=Va.out.free 10;simp at x7 x8 x9 v0 x0 y7 y8 y9 y0;obtain⟨w2,g0⟩:=nmH (((((wa.setCell (Q V 7 I) fh).setCell (Q V 8 I) fe).setCell (Q V 9 I) fd).setCell (Q V 10 I) fo));have V2:H (Row w2 V 42 #[r,pr,pk,pn,pi,pb,.slice g6 m m,fh,fe,fd,fo,.slice I 0 0,.slice I 0 0]):=by show Row _ _ _ _;rw[g0.out];exact((((Va.out.set 7 _).set 8 _).set 9 _).set 10 _)
 have A2:H (Row w2 A 228 (slC ⟨r,⟨pr,pk,pn,pi,pb,m,S⟩,fh,fe,fd,fo,ze,zr⟩ (.slice a6 m c6) (.slice j0 le o0) (.slice k0 lr p0))):=by show Row _ _ _ _;rw[g0.out];exact((((Aa.out.other 7 _ a0.out.2.1).other 8 _ a0.out.2.1).other 9 _ a0.out.2.1).other 10 _ a0.out.2.1)
 have D2:H (Row w2 D 42 #[Zs,Zs,(),(),(),Zs,.slice I 0 0,Av,Av,Av,Av,.slice I 0 0,.slice I 0 0]):=by show Row _ _ _ _;rw[g0.out];exact((((Da.out.other 7 _ (Cj a0.out.1)).other 8 _ (Cj a0.out.1)).other 9 _ (Cj a0.out.1)).other 10 _ (Cj a0.out.1))
 have x1:H (jI w2 w0 g6 m m S):=by show jI _ _ _ _ _ _;rw[g0.out];exact(jI.setFar (jI.setFar (jI.setFar (jI.setFar b2.out a0.out.2.2.2.2.2.1) a0.out.2.2.2.2.2.1) a0.out.2.2.2.2.2.1) a0.out.2.2.2.2.2.1)
 have r0:H (Ab w w w2):=by show Ab _ _ _;rw[g0.out];exact(Bn (Bn (Bn (Bn Ba.out a0.out.2.2.2.2.1 _) a0.out.2.2.2.2.1 _) a0.out.2.2.2.2.1 _) a0.out.2.2.2.2.1 _)
 have u1:=hd (c1.out w2 r0.out);have r1:H (w1.1.size=w2.1.size):=by show _=_;rw[k2.out,g0.out];simp
 go_wp2_with (refine C7 rfl 29 _ _ rfl V 1 (pcC pr pk pn pi pb (.slice g6 m m)) rfl rfl ?_ Tryz.infoPc (by simp[Aq]) ?_;exact TH.out;rw[<-i0.out])
 rw[<-g0.out];refine Ax u1.out ?_;obtain⟨b0,d0⟩:=nmH w2.1.size;rw[<-d0.out];rintro e w3 ⟨rfl,g1,b3⟩;rw[d0.out] at b3;have A3:=A2.out.below b3 A2.out.lt;have D3:=hd (D2.out.below b3 D2.out.lt);have V3:=V2.out.below b3 V2.out.lt;have m2:=A3.cell 12;have n2:=V3.cell 11;have o2:=V3.free 11;simp at m2 n2;obtain⟨w4,m0⟩:=nmH (w3.setCell (Q V 11 I) (.slice b0 le le));have V4:H (Row w4 V 42 #[r,pr,pk,pn,pi,pb,.slice g6 m m,fh,fe,fd,fo,.slice b0 le le,.slice I 0 0]):=by show Row _ _ _ _;rw[m0.out];exact V3.set 11 _
 have D4:H (Row w4 D 42 #[Zs,Zs,(),(),(),Zs,.slice I 0 0,Av,Av,Av,Av,.slice I 0 0,.slice I 0 0]):=by show Row _ _ _ _;rw[m0.out];exact D3.out.other 11 _ (Cj a0.out.1)
 have q2:=V2.out.lt;have z1:H (jI w4 w0 g6 m m S):=by show jI _ _ _ _ _ _;rw[m0.out];exact jI.setFar (jI.below x1.out b3) a0.out.2.2.2.2.2.1
 have q0:H (w4.ownsRow w2 3 1 (.slice b0 le le) le (ze.map (Ao Ar))):=by
  show World.ownsRow _ _ _ _ _ _ _;rw[m0.out];rw[d0.out] at g1 |-;exact jK g1 (jP _ _ _ _) (fun x e=>by cases e;show w2.1.size≠V;omega)
 have B4:H (Ab w w w4):=by show Ab _ _ _;rw[m0.out];exact Bn (jA r0.out b3) a0.out.2.2.2.2.1 _
 have s1:H (w2.1.size<w4.1.size):=by
  show _<_;have:=(A0 q0.out b0 rfl)
  have e:=d0.out;omega
 have v1:=hd (e1.out w4 B4.out);go_wp2_with fail
 rw[<-m0.out];refine Ax v1.out ?_;obtain⟨c0,e0⟩:=nmH w4.1.size;rw[<-e0.out];rintro e w5 ⟨rfl,j1,b5⟩;rw[e0.out] at b5;have D5:=hd (D4.out.below b5 D4.out.lt);have V5:=V4.out.below b5 V4.out.lt;have t1:=V5.cell 12;have i2:=V5.free 12;simp at t1;obtain⟨w6,h0⟩:=nmH (w5.setCell (Q V 12 I) (.slice c0 lr lr));have V6:H (Row w6 V 42 #[r,pr,pk,pn,pi,pb,.slice g6 m m,fh,fe,fd,fo,.slice b0 le le,.slice c0 lr lr]):=by show Row _ _ _ _;rw[h0.out];exact V5.set 12 _
 have D6:H (Row w6 D 42 #[Zs,Zs,(),(),(),Zs,.slice I 0 0,Av,Av,Av,Av,.slice I 0 0,.slice I 0 0]):=by show Row _ _ _ _;rw[h0.out];exact D5.out.other 12 _ (Cj a0.out.1)
 have r2:=V4.out.lt;have a2:H (jI w6 w0 g6 m m S):=by show jI _ _ _ _ _ _;rw[h0.out];exact jI.setFar (jI.below z1.out b5) a0.out.2.2.2.2.2.1
 have i1:H (w6.ownsRow w2 3 1 (.slice b0 le le) le (ze.map (Ao Ar))):=by
  show World.ownsRow _ _ _ _ _ _ _;rw[h0.out];exact jK (jE q0.out b5) (jP _ _ _ _) (fun x e=>by cases e;show b0≠V;rw[d0.out];omega)
 have k1:H (w6.ownsRow w4 3 1 (.slice c0 lr lr) lr (zr.map (Ao Ar))):=by
  show World.ownsRow _ _ _ _ _ _ _;rw[h0.out];rw[e0.out] at j1 |-;exact jK j1 (jP _ _ _ _) (fun x e=>by cases e;show w4.1.size≠V;omega)
 have B6:H (Ab w w w6):=by show Ab _ _ _;rw[h0.out];exact Bn (jA B4.out b5) a0.out.2.2.2.2.1 _
 obtain⟨w7,n0⟩:=nmH (w6.setRow D #[r,pr,pk,pn,pi,pb,.slice g6 m m,fh,fe,fd,fo,.slice b0 le le,.slice c0 lr lr]);have ZR:=rr n0 D6;have ZB:H (Ab w w w7):=by show Ab _ _ _;rw[n0.out];exact jF B6.out a0.out.2.2.2.1 _
 have n1:∀ x,(M (Q g6 0 I):OA)=M x->x.block≠D:=fun x e=>by cases e;have h1:=S6.out.1;have h2:=a0.out.2.2.2.2.2.2;show g6≠D;omega
 have p2:D<w2:=by have h1:=r1.out;have h2:=S6.out;have h3:=a0.out.2.2.2.2.2.2;omega
 have t0:∀ x,(M (Q b0 0 I):OA)=M x->x.block≠D:=fun x e=>by cases e;show b0≠D;rw[d0.out];omega
 have u0:∀ x,(M (Q c0 0 I):OA)=M x->x.block≠D:=fun x e=>by cases e;show c0≠D;rw[e0.out];have:=s1.out;omega
 have Z6:H (jI w7 w0 g6 m m S):=by show jI _ _ _ _ _ _;rw[n0.out];exact jK a2.out (qT _ _ _) n1
 have e2:H (World.ownsRow w7 w2 3 1 (.slice b0 le le) le (ze.map (Ao Ar))):=by show World.ownsRow _ _ _ _ _ _ _;rw[n0.out];exact jK i1.out (qT _ _ _) t0
 have m1:H (World.ownsRow w7 w4 3 1 (.slice c0 lr lr) lr (zr.map (Ao Ar))):=by show World.ownsRow _ _ _ _ _ _ _;rw[n0.out];exact jK k1.out (qT _ _ _) u0
 have j2:=(A0 m1.out c0 rfl).2;go_wp2_with (first|(rw[<-h0.out];refine Bb rfl 42 _ rfl V rfl 42 _ (0,0) _ V6.out C5 rfl Tryz.infoSl ?_;clear t1 i2)|(refine Bw rfl 42 _ _ rfl D #[r,pr,pk,pn,pi,pb,.slice g6 m m,fh,fe,fd,fo,.slice b0 le le,.slice c0 lr lr] rfl rfl 42 #[Zs,Zs,(),(),(),Zs,.slice I 0 0,Av,Av,Av,Av,.slice I 0 0,.slice I 0 0] ?_ Tryz.infoSl rfl (by simp[Aq]) ?_;exact D6.out;rw[<-n0.out]))
 refine B7 (v:=Ai #[r,pr,pk,pn,pi,pb,.slice g6 m m,fh,fe,fd,fo,.slice b0 le le,.slice c0 lr lr]) (Ck results193 _ _ D 42 _ (0,0) _ rfl ZR.out C5 rfl Tryz.infoSl) rfl ⟨g6,b0,c0,rfl,?_,?_,?_,j2,?_,?_,?_,ZB.out⟩
 .have h1:=S6.out.1;have h2:=s0.out.size;omega
 .have h1:=S6.out.2;have h2:=r1.out;have h3:=d0.out;omega
 .have h1:=d0.out;have h2:=e0.out;have h3:=s1.out;omega
 .exact xQ (jI.base Z6.out s0.out.size) (fun x e=>by cases e;rfl)
 .exact OI.out _ _ _ (jY e2.out r0.out.size)
 .exact OZ.out _ _ _ (jY m1.out B4.out.size)
theorem Row.keptG {w w':Ad} {g G:Nat} {t:TypeId} {cs:Array Aj} (h:Row w G t cs) (hg:w.grownBy w' (M g)) (a0:G≠g):Row w' G t cs:=(hg.block G h.lt (fun e=>a0 (by cases e;rfl))).trans h
theorem jAa {w:Ad} {b off n:Nat} {zs:List Int} (h:jH w (Q b off I) n zs):∀ (j:Nat) (u:Aj),(zs.map (Ao Ar))[j]?=M u->w.cell? (((Q b off I):Al).add j)=M u:=fun j u hu=>by
 have hj:j<zs.length:=by
  have:=(Ca.1 hu).1
  simpa using this
 obtain⟨b',a0,e,hc⟩:=h.2 j (by rw[<-h.1];exact hj);cases e;have ea:((Q b off I):Al).add j=(Q b (off+j) I):=by unfold Addr.add;split <;> simp_all
 rw[ea,hc,<-hu];simp[hj]
theorem jAb {w:Ad} {a:Al} {n:Nat} {zs:List Int} (h:jH w (M a) n zs) (hn:0<n):a=(Q a.block a.off I):=by
 obtain⟨b,off,e,_⟩:=h.2 0 hn;cases e;rfl
theorem jIi (n c:Nat) (w:Ad):Sem.run prog (binOp BinOp.eql 40 (V I n c) (V I 0 0)) w=.ok Aw w:=by rfl
theorem jIj (x:Al) (n c:Nat) (w:Ad):Sem.run prog (binOp BinOp.eql 40 (V (M x) n c) (V I 0 0)) w=.ok Av w:=by rfl
theorem XF (a:OA) (cap:Nat) (zs:List Int) (w:Ad) (h:jH w a zs.length zs) (hn:zs.length<=1048576):Ak prog 77 #[V a zs.length cap] w fun e w'=>∃ a' c',e=Ae (V a' zs.length c')/\Ow w' w (inD zs) (V a' zs.length c') (rng w w'.1.size)/\Ab w w w':=by
 obtain⟨i0,hi,m0,n0,o0⟩:∃ i0,Tryz.prog.info? 3=M i0/\i0.zero=M (Ao Ar 0)/\i0.size=1/\i0.bytes=8:=⟨_,rfl,rfl,rfl,rfl⟩;obtain⟨n,HN⟩:=nnH zs.length;rw[HN.out] at h hn |-;match a,h with
 | none,h=>
  have e0:n=0:=by
   by_cases h0:n=0
   .exact h0
   .obtain⟨b,off,e,_⟩:=h.2 0 (by omega);cases e
  subst e0;have ez:zs=[]:=Ez.1 HN;subst ez;have p0:=jIi;go_enter func77,ntmps77
  go_wp2
  go_ret
  exact⟨I,0,rfl,vV (zs:=[]) (Fm _ _ _ _) (fun x e=>by cases e),Az _ _⟩
 | some ad,h=>
  obtain⟨b,off,sp⟩:=ad;have k0:H (∀ (j:Nat) (u:Aj),(zs.map (Ao Ar))[j]?=M u->w.cell? ((⟨b,off,sp⟩:Al).add j)=M u):=fun j u hu=>by
   have hj:0<n:=by
    have:=(Ca.1 hu).1
    have:=HN.out
    simp at *;omega
   have e:=jAb h hj;simp at e;subst e;exact jAa h j u hu
  have g0:H ((zs.map (Ao Ar)).length=n*1):=by show _=_;simp[HN.out]
  have HO:H ((w.alloc (J #[] 3)).ownsRow w 3 1 (V (Q w 0 I) 0 0) 0 []):=by
   have:=Cc (e:=3) (size:=1) (base:=w.1.size) w #[] 0 (by simp) (by unfold Au;omega) (by simp)
   exact this
  have j0:H (∀ (j:Nat) (u:Aj),(zs.map (Ao Ar))[j]?=M u->(w.alloc (J #[] 3)).cell? ((⟨b,off,sp⟩:Al).add j)=M u):=fun j u hu=>by
   have:=k0 j u hu
   rw[((Az w w).alloc (Ay _) _).cell (A7 this)];exact this
  have d0:H (Ab w w (w.alloc (J #[] 3))):=(Az _ _).alloc (Ay _) _;clear h;have q0:=jIj;go_enter func77,ntmps77
  go_wp2_with (at_builtin;refine qF _ rfl _ _ 40 rfl w 3 i0 () 1 8 Ec hi m0 n0 o0 rfl (by decide) w 0 0 [] rfl ?_ ⟨b,off,sp⟩ n cap (zs.map (Ao Ar)) rfl ?_ ?_ (by simp[Aq]) (by unfold Au;omega) (by omega) (by simp) ?_;exact HO.out;exact g0.out;exact j0.out;intro g3 c0 w3 b0 a0)
  have f0:H (Ab w w w3):=d0.grown a0 (by simp) (fun x hx=>by cases hx;exact Ay _);have HO3:H (w3.ownsRow w 3 1 (V g3 zs.length c0) zs.length (zs.map (Ao Ar))):=by
   show World.ownsRow _ _ _ _ _ _ _;rw[HN.out];simpa using b0
  have lg:=A0 HO3 g3 rfl;clear b0 a0;go_wp2
  go_ret
  refine⟨M (Q g3 0 I),c0,by simp,?_,f0⟩;have:=vV HO3 (F:=rng w w3.1.size) (fun x e=>by cases e;exact lg)
  rw[HN.out] at this;exact this
end Go.Proofs.YtcaejlalnjnifaaGreat
