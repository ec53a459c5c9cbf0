import Derived.Test.YtcaejlalnjnifaaGreatR10
import Derived.Test.YtcaejlalnjnifaaGreatR6
import Derived.Test.YtcaejlalnjnifaaGreatR12
set_option maxHeartbeats 8000000
set_option maxRecDepth 2000
open Go.Value renaming slice->V,pointer->Af,string->Ag,tuple->Ah,agg->Ai,int->Ao,oneCell'->Aq
open Option renaming none->I,some->M
open Go.RowKit renaming Hid->H,Below->Ab
open Go.Addr renaming mk->Q
open Go renaming undef->O,World->Ad,Value->Aj,Calls->Ak,Addr->Al,maxLen->Au
open Go.Obj renaming cells->J
open Go.Ending renaming returned->Ae
open ByteArray renaming empty->Ap
open Go.IntKind renaming i64->Ar
open Bool renaming false->Av,true->Aw
open Go.Proofs.Tryz
open Go.ChangeShapes Go.WideShapes Go.ChangeAt Go.RowKit
namespace Go.Proofs.YtcaejlalnjnifaaGreat
section
open Go.Shelf
open Gt (hf up rt)
def rtS (n:Nat) (S:Nat->BA):BA:=if lvB n S=Aw then rt n S else ⟨#[]⟩
theorem vF {n:Nat} {S:Nat->BA} (h:lvB n S=Aw):1<=n/\n<=64/\∀ i,i<n->(S i).size=16:=by
 unfold lvB at h;rw[Cs] at h;have h2:=h.2;unfold inB at h2;simp at h2;exact⟨by omega,by omega,jIw.1 h.1⟩
theorem jB1 {n i:Nat} (S:Nat->BA) (h:i<n):jAj n S i=S i:=A6 h
theorem jQj (a:OA) (n cap:Nat) (S:Nat->BA) (w:Ad) (h:jL w a n S) (hn:n<=1048576) (hL:∀ i,i<n->(S i).size<=Au) (b0:lvB n S=Av):CB 225 #[V a n cap] w (Ah #[Zs,Av]):=by
 have KL:H (CB 240 #[V a n cap] w (Ah #[RwV noT 0,Av])):=jA3 a n cap S w h hn hL b0;clear h hL b0;go_enter func225,ntmps225
 go_wp2_with fail
 refine KL.mono ?_;rintro e w1 ⟨rfl,a0⟩;have HB:H (Ab w w (w1.alloc (J (jV noT 0) 259))):=a0.alloc a0.size _;have HF:H ((w1.alloc (J (jV noT 0) 259)).setRow w1 (jV noT 0)=w1.alloc (J (jV noT 0) 259)):=qK _ _ _ _;go_wp2_with (first|(refine xT rfl rfl ?_)|(refine vW rfl _ _ rfl w1 rfl noT 0 rfl noT 0 (Row.new w1 _ _) ?_;rw[HF.out]))
 go_ret2
 exact⟨rfl,HB⟩
theorem jM8 (a:OA) (n cap:Nat) (S:Nat->BA) (w:Ad) (h:jL w a n S) (a0:lvB n S=Aw):CB 225 #[V a n cap] w (Ah #[(rt n S),Aw]):=by
 have KL:H (CB 240 #[V a n cap] w (Ah #[RwV (jAj n S) n,Aw])):=JY a n cap S w h a0;obtain⟨h1,r0,d0⟩:=vF a0;obtain⟨R,HR⟩:=nnH (rt n S);have HT:H (rt n (jAj n S)=R):=by show _=_;rw[<-HR.out];exact Gt.rt_congr (by omega) (fun i hi=>jB1 S hi)
 have o0:H (∀ i,i<n->(jAj n S i).size=16):=fun i hi=>by rw[jB1 S hi];exact d0 i hi
 have q0:H (R.size=16):=by show _=_;rw[<-HR.out];exact Gt.rt_size (by omega) d0
 rw[HR.out];clear h a0 d0 HR;generalize jAj n S=T at *;refine(Dv (n:=2)).1 (callsIn_of_wp_marks func225 rfl trivial (wpIn_wide.2 ?_) rfl);simp only[ntmps225,E0,Fr,Gb,Nat.reduceAdd,Nat.reduceSub,Es,Et,Fj,E6,En,Fa];go_wp2_with fail
 refine KL.mono ?_;rintro e w1 ⟨rfl,b0⟩;obtain⟨w2,j0⟩:=nmH (w1.alloc (J (jV T n) 259));have HF:H ((w1.alloc (J (jV noT 0) 259)).setRow w1 (jV T n)=w2):=by rw[j0.out];exact qK _ _ _ _
 obtain⟨B,hB⟩:∃ B,w1.1.size=B:=⟨_,rfl⟩;have K2:H (Row w2 B 259 (jV T n)/\Ab w w w2/\w2.1.size=B+1/\w.1.size<=B):=by
  rw[j0.out,<-hB];exact⟨Row.new w1 _ _,b0.alloc b0.size _,by simp,b0.size⟩
 have K3:H (Row (w2.alloc (J #[Zs] 9)) B 259 (jV T n)):=K2.1.alloc _;have x0:=K2.2.2.1;go_wp2_with (first|(refine xT rfl rfl ?_)|(refine vW rfl _ _ rfl w1 rfl T n rfl noT 0 (Row.new w1 _ _) ?_;rw[HF.out])|(refine jGl rfl _ rfl B rfl T n K3.out ?_))
 obtain⟨w8,k0⟩:=nmH (w2.alloc (J #[Zs] 9));have HN:H (Row w8 (B+1) 9 #[Zs]/\Ab w w w8/\w8.1.size=B+2/\w.1.size<=B):=by
  rw[k0.out];obtain⟨a1,a2,a3,a4⟩:=K2.out;refine⟨?_,a2.alloc (by omega) _,by simp;omega,a4⟩;have:=Row.new w2 #[Zs] 9
  rw[a3] at this;exact this
 rw[<-k0.out];clear hB x0 b0;refine(wpIn_wide (n:=2)).1 ?_;refine zP (recv:=RwV T n) (gf:=241) rfl (enters_of func241 (by kernel_rfl) rfl) (jDt T n h1 r0 o0) (fun _=>rfl)
  (fun s W=>Ab w w W/\∃ r:BA,Row W (B+1) 9 #[r]/\(s.1=Av->rt s.2.1 s.2.2=R)/\(s.1=Aw->r=R)) ?abide ?start ?round ?done
 case abide=>
  rintro s A A' j h1 h2 ⟨hb,r,hr,hp,hq⟩ hg;have hn:=HN.2.2;exact⟨qG hb hg hb.size (by omega),r,hr.grown hg (by omega),hp,hq⟩
 case start=>exact⟨HN.2.1,_,HN.1,fun _=>HT.out,fun e=>by cases e⟩
 case round=>
  rintro l ⟨d,m,T'⟩ W f0 ⟨hb,r,hr,hp,hq⟩ z0;have hn:=HN.2.2;have hd:d=Av:=f0.1;have n0:=hp hd;have HX:H (R=rt m T'):=n0.symm;have HO:H (rOk (d,m,T')):=f0;clear hp hq n0 f0;have y0:=Oper.semAt_some;have p0:H ((W.alloc (J (jV noT 0) 259)).setRow W.1.size (jV T' m)=W.alloc (J (jV T' m) 259)):=qK _ _ _ _;go_simp
  gi_wp2_with (first|(refine jJq rfl rfl ?_)|(refine jEt rfl _ _ rfl W.1.size rfl T' m rfl noT 0 (Row.new W _ _) ?_;rw[p0.out]))
  refine⟨E8 _ _ _,?_⟩;intro W2 c0 v0;have r1:=(hr.alloc (J (jV T' m) 259)).grown c0 (by omega);have rX:=(Row.new W (jV T' m) 259).grown c0 (by omega);have u0:=qG (hb.alloc hb.size (J (jV T' m) 259)) c0 (by simp;have:=hb.size;omega) (by omega);have c1:=r1.cell 0;have f1:=r1.free 0;have cX:W2.cell? (Q W.1.size 0 I)=M (Ag (T' 0)):=by rw[rX.cell 0,vP _ _ _ (by omega)]
  simp at c1;have i0:H (Row (W2.setCell (Q (B+1) 0 I) (T' 0)) (B+1) 9 #[(T' 0)]):=r1.set 0 (T' 0);have g0:H (Ab w w (W2.setCell (Q (B+1) 0 I) (T' 0))):=u0.setCell (by simp;omega) _;have HE:H (((rNx (d,m,T')).1=Av->rt (rNx (d,m,T')).2.1 (rNx (d,m,T')).2.2=R)/\((rNx (d,m,T')).1=Aw->T' 0=R)):=by
   show _/\_;unfold rNx;by_cases e:m<=1
   .rw[A6 e];refine⟨fun x=>(by cases x),fun _=>?_⟩;rw[HX.out,Gt.rt_one _ e]
   .rw[A5 e];refine⟨fun _=>?_,fun x=>(by cases x)⟩;rw[HX.out,Gt.rt_more _ e]
  generalize T' 0=t0 at cX i0 g0 HE;clear hd HX HO c0 v0 hr;gi_wp2
  exact⟨by simp,fun j h1 h2=>Dg _ _ _ _ (by simp;omega),g0.out,t0,i0.out,HE.out⟩
 case done=>
  rintro s W hf ⟨hb,r,hr,hp,hq⟩ hK;obtain rfl:r=R:=hq hf;have e0:=hr.cell 0;simp at e0;have KC:H (∀ w0,CB 120 #[r] w0 r):=fun w0=>qO r w0 (by have:=q0.out;omega)
  go_wp2_with fail
  refine(KC _).mono ?_;rintro e w9 ⟨rfl,m0⟩;have s0:w9.1[w8.1.size]?=M (.deferred (M [])):=(m0.block _ (Bz.1 hK).1).trans hK;have h0:H (Ab w w w9):=hb.trans (m0.mono hb.size);go_wp2
  refine⟨by simp,.inl ⟨_,_,rfl,run_takeDeferred s0,?_⟩⟩;exact⟨_,results_tmp2 rfl _ _ _,rfl,qG h0 (qS _ _ _) h0.size (by have:=HN.2.2;omega)⟩
theorem jM7 (a:OA) (n cap:Nat) (S:Nat->BA) (w:Ad) (h:jL w a n S) (hn:n<=1048576) (hL:∀ i,i<n->(S i).size<=Au):CB 225 #[V a n cap] w (Ah #[(rtS n S),(lvB n S)]):=by
 unfold rtS;cases hB:lvB n S with
 | false=>exact jQj a n cap S w h hn hL hB
 | true=>exact jM8 a n cap S w h hB
end
section
open Go.Shelf
open Gt (hf up nb pl)
def pfB (n:Nat) (S:Nat->BA) (i:Int):Bool:=lvB n S&&inT i (n:Int)
def pfR (n:Nat) (S:Nat->BA) (i:Int):Nat:=if pfB n S i=Aw then pl i.toNat n else 0
def pfF (n:Nat) (S:Nat->BA) (i:Int):Nat->BA:=Gt.pf n S i.toNat
structure Kp (X:Nat->Prop) (W W':Ad):Prop where
 os:W'.os=W.os
 tape:W'.tape=W.tape
 output:W'.output=W.output
 size:W.1.size<=W'.1.size
 block:∀ j,j<W.1.size->¬ X j->W'.1[j]?=W.1[j]?
theorem Kp.trans {X:Nat->Prop} {A B C:Ad} (h:Kp X A B) (k:Kp X B C):Kp X A C:=
 ⟨k.os.trans h.os,k.tape.trans h.tape,k.output.trans h.output,By h.size k.size,fun j hj hx=>(k.block j (Bu hj h.size) hx).trans (h.block j hj hx)⟩
theorem Kp.below {X:Nat->Prop} {A B:Ad} (h:Ab A A B):Kp X A B:=⟨h.os,h.tape,h.output,h.size,fun j hj _=>h.block j hj⟩
theorem Kp.grown {X:Nat->Prop} {A B:Ad} {g:Nat} (h:A.grownBy B (M g)) (hx:X g):Kp X A B:=⟨h.os,h.tape,h.output,h.size,fun j hj hn=>h.block j hj (fun e=>by cases e;exact hn hx)⟩
theorem Kp.set {X:Nat->Prop} (A:Ad) (g i:Nat) (v:Aj) (hx:X g):Kp X A (A.setCell (Q g i I) v):=Kp.grown (jP A g i v) hx
theorem Kp.base {X:Nat->Prop} {N:Nat} {w A B:Ad} (h:Kp X A B) (hb:Ab N w A) (hN:N<=A) (hx:∀ j,j<N->¬ X j):Ab N w B:=
 hb.trans ⟨h.os,h.tape,h.output,h.size,fun j hj=>h.block j (by omega) (hx j hj)⟩
theorem jPj {W9:Ad} {Bm Bs Bl G c cp:Nat} {vs vl:Array Aj} {O:Nat->BA} (z:BA) (ho:jI W9 Bm G c cp O) (rs:Row W9 Bs 243 vs) (rl:Row W9 Bl 27 vl) (hs:G≠Bs) (hl:G≠Bl) (hc:c<=64):∃ g3 c3 w3,(Builtin.append_ #[27,27] 27 #[V G c cp,V (Q W9 0 I) 1 1]).run prog (W9.alloc (J #[z] 9))=.ok (V (Q g3 0 I) (c+1) c3) w3/\H (jI w3 Bm (Q g3 0 I) (c+1) c3 (fun j=>if j=c then z else O j)/\Row w3 Bs 243 vs/\Row w3 Bl 27 vl/\(g3=G\/W9.1.size<g3)/\Kp (fun j=>j=G\/j=Bs\/j=Bl) W9 w3):=by
 obtain⟨i0,hi,f0,g0,h0⟩:=Cg Tryz.infoStr;have hb:=(A0 ho _ rfl);obtain⟨g3,c3,w3,e0,c0,a0,d0,j0⟩:=run_append_lies (P:=prog) (W9.alloc (J #[z] 9)) 27 27 Bm 9 i0 Ap 1 16 C3 hi f0 g0 h0 rfl (by decide) (V G c cp) c _ (Cb ho _) ⟨W9.1.size,0,I⟩ 1 1 [z] rfl (Cf (cs:=#[Ag z]) (t:=9) (fr:=(0,0)) (Cq W9 _)) (by simp[Aq]) (by omega) (by unfold Au;omega) (by omega) (by simp;omega) (W9.1.size+1) (by simp);have b0:=a0;refine⟨g3,c3,w3,e0,?_,(rs.alloc _).grown b0 (Cj hs),(rl.alloc _).grown b0 (Cj hl),?_,?_⟩
 .have hx:sL (fun j=>if j=c then z else O j) (c+1)=sL O c++[Ag z]:=by
   rw[QC,xR (S':=O) (fun i hi=>by rw[A5 (by omega)])];simp
  unfold jI;rw[hx];exact c0
 .rcases d0 with h|h
  .left;have h':M G=M g3:=h;cases h';rfl
  .right;omega
 .exact(Kp.below ((Az _ W9).alloc (Ay _) _)).trans (Kp.grown b0 (.inl rfl))
theorem jM5 (a:OA) (n cap:Nat) (S:Nat->BA) (i:Int) (w:Ad) (h:jL w a n S) (hn:n<=1048576) (hL:∀ i,i<n->(S i).size<=Au) (b0:pfB n S i=Av):Ak prog 226 #[V a n cap,Ao Ar i] w fun e w'=>∃ v,e=Ae (Ah #[v,Av])/\jCp w w' v 0 (pfF n S i)/\Ab w w w':=by
 have KL:H (∃ (T:Nat->BA) (m:Nat),CB 240 #[V a n cap] w (Ah #[RwV T m,(lvB n S)])):=by
  cases hB:lvB n S with
  | false=>exact⟨_,_,jA3 a n cap S w h hn hL hB⟩
  | true=>exact⟨_,_,JY a n cap S w h hB⟩
 obtain⟨T,m,c0⟩:=KL.out;have KC:H (CB 240 #[V a n cap] w (Ah #[RwV T m,(lvB n S)])):=c0;clear KL c0 h hL;obtain⟨F,HF⟩:=nnH (pfF n S i);rw[HF.out];unfold pfB at b0;have KT:H (∀ w0,CB 228 #[SpV i (n:Int)] w0 (inT i (n:Int))):=fun w0=>xO i (n:Int) w0
 cases hB:lvB n S with
 | false=>
  rw[hB] at KC;go_enter func226,ntmps226
  go_wp2_with fail
  refine KC.mono ?_;rintro e w1 ⟨rfl,a0⟩;have HS:H ((w1.alloc (J (jV noT 0) 259)).setRow w1 (jV T m)=w1.alloc (J (jV T m) 259)):=qK _ _ _ _;go_wp2_with (first|(refine xT rfl rfl ?_)|(refine vW rfl _ _ rfl w1 rfl T m rfl noT 0 (Row.new w1 _ _) ?_;rw[HS.out]))
  go_ret2
  have HL:=jIq ((w1.alloc (J (jV T m) 259)).alloc (J #[Ao Ar i,(n:Int)] 243)) F;simp only[World.size_alloc] at HL;exact⟨_,rfl,⟨_,_,rfl,HL.base (by have:=a0.size;omega)⟩,((a0.alloc a0.size _).alloc (by simp;have:=a0.size;omega) _).alloc (by simp;have:=a0.size;omega) _⟩
 | true=>
  rw[hB] at KC b0;have e0:inT i (n:Int)=Av:=by simpa using b0
  rw[e0] at KT;go_enter func226,ntmps226
  go_wp2_with fail
  refine KC.mono ?_;rintro e w1 ⟨rfl,a0⟩;have HS:H ((w1.alloc (J (jV noT 0) 259)).setRow w1 (jV T m)=w1.alloc (J (jV T m) 259)):=qK _ _ _ _;go_wp2_with (first|(refine xT rfl rfl ?_)|(refine vW rfl _ _ rfl w1 rfl T m rfl noT 0 (Row.new w1 _ _) ?_;rw[HS.out])|(go_at_call 228;refine(KT _).mono ?_;rintro e w5 ⟨rfl,d0⟩))
  go_ret2
  have hb:=jA ((a0.alloc a0.size (J (jV T m) 259)).alloc (by simp;have:=a0.size;omega) _) d0;exact⟨_,rfl,⟨_,_,rfl,(jIq _ F).base (by have:=hb.size;omega)⟩,hb.alloc hb.size _⟩
end
section
open Gt (hf up rt)
theorem jK6 {w:Ad} {b off n:Nat} {S:Nat->BA} (hc:∀ i,i<n->w.cell? (Q b (off+i) I)=M (Ag (S i))):∀ j u,(sL S n)[j]?=M u->w.cell? (((Q b off I):Al).add j)=M u:=by
 intro j u hu;have hj:j<n:=by
  have:=(Ca.1 hu).1
  rwa [qX] at this
 rw[zB _ _ _ hj] at hu;cases hu;have ea:((Q b off I):Al).add j=(Q b (off+j) I):=by unfold Addr.add;split <;> simp_all
 rw[ea];exact hc j hj
theorem jOy (S:Nat->BA) (n:Nat):∀ u∈sL S n,u.oneCell'=Aw:=by
 intro u hu;unfold sL at hu;simp at hu;obtain⟨i,_,rfl⟩:=hu;rfl
theorem jLa (a:OA) (n cap:Nat) (S:Nat->BA) (w:Ad) (h:jL w a n S) (hn:n<=1048576) (hL:∀ i,i<n->(S i).size<=Au):CB 164 #[V a n cap] w (Ah #[(rtS n S),(lvB n S)]):=by
 have KV:H (CS 189 #[V a n cap] w (lvB n S)):=QD a n cap S w h hn hL;unfold rtS;cases hB:lvB n S with
 | false=>
  rw[hB] at KV;clear h hL hB;go_enter func164,ntmps164
  go_wp2_with (go_at_call 189;refine KV.mono ?_;rintro e w' ⟨rfl,hw⟩;obtain rfl:=hw.symm)
  go_ret2
  exact⟨rfl,Az _ _⟩
 | true=>
  rw[hB] at KV;obtain⟨h1,h64,e0⟩:=vF hB;obtain⟨i0,hi,n0,o0,p0⟩:=Cg Tryz.infoStr;obtain⟨b,off,rfl,d0⟩:=h.some (by omega);have q0:b<w:=A7 (d0 0 (by omega));have HN:H (∀ j u,(sL S n)[j]?=M u->(w.alloc (J #[] 9)).cell? (((Q b off I):Al).add j)=M u):=jK6 (fun i hi=>by
   have hb:Ab w w (w.alloc (J #[] 9)):=(Az _ _).alloc (Ay _) _;exact(hb.cell (p:=Q b (off+i) I) q0).trans (d0 i hi))
  have KL:H (jI (w.alloc (J #[] 9)) w (Q w 0 I) 0 0 S):=jIq w _;have H1:H (∀ u∈sL S n,u.oneCell'=Aw):=jOy S n;have H16:H (∀ i,i<n->(S i).size=16):=e0;obtain⟨Z,HZ⟩:=nnH (rt n S);rw[A6 rfl,HZ.out];clear h hL hB d0 e0;go_enter func164,ntmps164
  go_wp2_with (first|(go_at_call 189;refine KV.out.mono ?_;rintro e w' ⟨rfl,hw⟩;obtain rfl:=hw.symm)|(at_builtin;refine qF _ rfl _ _ 27 rfl w 9 i0 Ap 1 16 C3 hi n0 o0 p0 rfl (by decide) w 0 0 _ rfl KL.out ⟨b,off,I⟩ n cap (sL S n) rfl (by rw[qX];omega) HN.out H1.out (by unfold Au;omega) (by omega) (by simp) ?_;intro g3 cap3 w3 hown3 hgrow3))
  have HO:H (jI w3 w g3 n cap3 S):=by
   have hx:sL S 0++sL S n=sL S n:=rfl;rw[hx,Bt] at hown3;exact hown3
  have HB:H (Ab w w w3):=((Az _ w).alloc (Ay _) _).grown (show World.grownBy _ w3 (M w.1.size) from hgrow3) (by simp) (fun j hj=>by cases hj;exact Ay _);clear hown3 hgrow3 KL HN H1 KV;go_loopg [4] n (fun gk v wr=>∃ (m G c:Nat) (R:Nat->BA),m=gk/\1<=m/\m<=64/\v=V G m c/\jI wr w G m c R/\H (∀ i,i<m->(R i).size=16)/\H (rt m R=Z)/\Ab w w wr)
  case atStart=>exact⟨n,g3,cap3,S,rfl,h1,h64,rfl,HO,H16,HZ,HB⟩
  case round=>
   obtain⟨m,G,c,R,rfl,u0,h0,rfl,b0,HS,HR,a0⟩:=hrel;clear HO HB H16 HZ;by_cases e1:m<=1
   .have k0:¬ (1:Int)<(m:Int):=by omega
    have m0:=(jI.at b0).some (by omega);obtain⟨b',s0,eq,g0⟩:=m0;cases eq;have c0:=g0 0 (by omega);have HE:H (R 0=Z):=by have:=HR.out;rw[Gt.rt_one _ e1] at this;exact this
    have t0:0<m:=by omega
    simp only[Cp] at c0;clear b0 g0;generalize R 0=r0 at c0 HE;go_wp2
    go_ret2
    exact⟨by rw[<-HE.out];rfl,a0⟩
   .have k0:(1:Int)<(m:Int):=by omega
    have KU:H (Ak prog 190 #[V G m c] wr fun e w'=>∃ g c,e=Ae (V (Q g 0 I) (hf m) c)/\jI w' wr.1.size (Q g 0 I) (hf m) c (up m R)/\Ab wr.1.size wr w'):=jLc _ m c R wr (jI.at b0) h0 HS;have HS2:H (∀ i,i<hf m->(up m R i).size=16):=Gt.up_size HS;have HR2:H (rt (hf m) (up m R)=Z):=by have:=HR.out;rw[Gt.rt_more _ e1] at this;exact this
    have hlt:1<=hf m/\hf m<m:=by unfold hf;omega
    generalize hf m=m' at *;generalize up m R=R' at *;clear b0;go_wp2_with fail
    refine KU.mono ?_;rintro e w9 ⟨g9,c9,rfl,j0,f0⟩;have HO9:H (jI w9 w g9 m' c9 R'):=j0.base a0.size;have HB9:H (Ab w w w9):=a0.trans (f0.mono a0.size);clear j0 f0;go_wp2
    go_roundg m'
    case measure=>exact hlt.2
    case rel=>exact⟨m',g9,c9,R',rfl,hlt.1,by omega,rfl,HO9.out,HS2,HR2,HB9.out⟩
end
section
open Go.Shelf
open Gt (hf up nb pl)
theorem jF6 {W6 w7:Ad} {Bm Bs Bl G c cp:Nat} {a0 a1:Aj} {vl:Array Aj} {O:Nat->BA} (p' s':Nat) (ho:jI W6 Bm G c cp O) (rs:Row W6 Bs 243 #[a0,a1]) (rl:Row W6 Bl 27 vl) (hb:Ab W6 W6 w7) (hs:G≠Bs) (hl:Bl≠Bs):H (Row ((w7.setCell Bs (p':Int)).setCell (Q Bs 1 I) (s':Int)) Bs 243 #[(p':Int),(s':Int)]/\Row ((w7.setCell Bs (p':Int)).setCell (Q Bs 1 I) (s':Int)) Bl 27 vl/\jI ((w7.setCell Bs (p':Int)).setCell (Q Bs 1 I) (s':Int)) Bm G c cp O/\Kp (fun j=>j=G\/j=Bs\/j=Bl) W6 ((w7.setCell Bs (p':Int)).setCell (Q Bs 1 I) (s':Int))):=by
 have h1:=((rs.below hb rs.lt).set 0 (p':Int)).set 1 (s':Int);refine⟨h1,((rl.below hb rl.lt).other _ _ hl).other _ _ hl,?_,?_⟩
 .exact jK (jK (ho.below hb) (jP _ _ _ _) (fun x e=>by cases e;exact hs)) (jP _ _ _ _) (fun x e=>by cases e;exact hs)
 .exact((Kp.below hb).trans (Kp.set _ _ _ _ (.inr (.inl rfl)))).trans (Kp.set _ _ _ _ (.inr (.inl rfl)))
theorem Kp.mono {X Y:Nat->Prop} {A B:Ad} (h:Kp X A B) (a0:∀ j,X j->Y j):Kp Y A B:=⟨h.os,h.tape,h.output,h.size,fun j hj hn=>h.block j hj (fun hx=>hn (a0 j hx))⟩
theorem jH5 {w W2 w5 w9 w3 Wf:Ad} {N G g3 Bs Bl C:Nat} {v:Aj} (a0:Ab W2 W2 w5) (b0:Ab w5 w5 w9) (K3:Kp (fun j=>j=G\/j=Bs\/j=Bl) w9 w3) (K7:Kp (fun j=>j=g3\/j=Bs\/j=Bl) (w3.setCell Bl v) Wf) (c0:g3=G\/w9.1.size<g3) (hG:G<C+2\/C+5<=G) (hs:Bs<C+2) (hl:Bl<C+2) (hC:C+5<=W2.1.size) (hb:Ab N w W2) (hN:N<=W2) (n1:N<=G) (n2:N<=Bs) (n3:N<=Bl):W2.1.size<=Wf.1.size/\(∀ j,C+2<=j->j<C+5->Wf.1[j]?=W2.1[j]?)/\Ab N w Wf:=by
 have hz:=By a0.size b0.size;have t:Kp (fun j=>j=G\/j=Bs\/j=Bl\/w9.1.size<j) W2 Wf:=
  ((((Kp.below a0).trans (Kp.below b0)).trans (K3.mono (fun j hj=>by omega))).trans (Kp.set w3 Bl 0 v (.inr (.inr (.inl rfl))))).trans (K7.mono (fun j hj=>by omega))
 exact⟨t.size,fun j h1 h2=>t.block j (by omega) (by omega),t.base hb hN (fun j hj=>by omega)⟩
theorem jPv {W:Ad} {Bm Bs Bl G c cp:Nat} {vs:Array Aj} {v v':Aj} {O:Nat->BA} (ho:jI W Bm G c cp O) (rs:Row W Bs 243 vs) (rl:Row W Bl 27 #[v]) (hs:Bs≠Bl) (hl:G≠Bl):jI (W.setCell Bl v') Bm G c cp O/\Row (W.setCell Bl v') Bs 243 vs/\Row (W.setCell Bl v') Bl 27 #[v']:=
 ⟨jK ho (jP _ _ _ _) (fun x e=>by cases e;exact hl),rs.other _ _ hs,rl.set 0 v'⟩
theorem jKu (a:OA) (n cap:Nat) (S:Nat->BA) (i:Nat) (w:Ad) (h:jL w a n S) (r0:lvB n S=Aw) (j1:inT (i:Int) (n:Int)=Aw):Ak prog 226 #[V a n cap,(i:Int)] w fun e w'=>∃ v,e=Ae (Ah #[v,Aw])/\jCp w w' v (pl i n) (Gt.pf n S i)/\Ab w w w':=by
 have KL:H (CB 240 #[V a n cap] w (Ah #[RwV (jAj n S) n,Aw])):=JY a n cap S w h r0;obtain⟨h1,n2,q1⟩:=vF r0;have hi:i<n:=by simp[inT] at j1;omega
 have KT:H (∀ w0,CB 228 #[SpV (i:Int) (n:Int)] w0 Aw):=fun w0=>by have:=xO (i:Int) (n:Int) w0;rw[j1] at this;exact this
 obtain⟨L,HL⟩:=nnH (pl i n);have z2:L<=6:=by rw[<-HL.out];exact Gt.pl_le 6 _ _ (by omega)
 obtain⟨PF,e1⟩:=nnH (Gt.pf n S i);have j2:H (∀ j,Gt.pf n (jAj n S) i j=PF j):=fun j=>by rw[<-e1.out];exact Gt.pf_congr (fun k hk=>jB1 S hk) i j
 have i2:H (∀ i,i<n->(jAj n S i).size=16):=fun i hi=>by rw[jB1 S hi];exact q1 i hi
 rw[HL.out,e1.out];clear h r0 q1 j1 e1;generalize jAj n S=T at *;refine(Dv (n:=2)).1 (callsIn_of_wp_marks func226 rfl trivial (wpIn_wide.2 ?_) rfl);simp only[ntmps226,E0,Fr,Gb,Nat.reduceAdd,Nat.reduceSub,Es,Et,Fj,E6,En,Fa];go_wp2_with fail
 refine KL.mono ?_;rintro e w1 ⟨rfl,x0⟩;obtain⟨w2,p1⟩:=nmH (w1.alloc (J (jV T n) 259));have HF:H ((w1.alloc (J (jV noT 0) 259)).setRow w1 (jV T n)=w2):=by rw[p1.out];exact qK _ _ _ _
 obtain⟨B,hB⟩:∃ B,w1.1.size=B:=⟨_,rfl⟩;have K2:H (Row w2 B 259 (jV T n)/\Ab w w w2/\w2.1.size=B+1/\w.1.size<=B):=by
  rw[p1.out,<-hB];exact⟨Row.new w1 _ _,x0.alloc x0.size _,by simp,x0.size⟩
 have t2:=K2.2.2.1;go_wp2_with (first|(refine xT rfl rfl ?_)|(refine vW rfl _ _ rfl w1 rfl T n rfl noT 0 (Row.new w1 _ _) ?_;rw[HF.out])|fail)
 refine(KT _).mono ?_;rintro e w4 ⟨rfl,y0⟩;obtain⟨C,hC⟩:∃ C,w4.1.size=C:=⟨_,rfl⟩;have K4:H (Row w4 B 259 (jV T n)/\Row w4 (B+1) 243 #[(i:Int),(n:Int)]/\Ab w w w4/\B+1<C/\w.1.size<=B):=by
  obtain⟨a1,a2,a3,a4⟩:=K2.out;have r1:=a1.alloc (J #[(i:Int),(n:Int)] 243);have r2:=Row.new w2 #[(i:Int),(n:Int)] 243;rw[a3] at r2;have g2:=r2.below y0 r2.lt;exact⟨r1.below y0 r1.lt,g2,jA (a2.alloc (by omega) _) y0,by rw[<-hC];exact g2.lt,a4⟩
 obtain⟨w8,f1⟩:=nmH ((w4.alloc (J #[] 9)).alloc (J #[V (Q C 0 I) 0 0] 27));have HN:H (Row w8 B 259 (jV T n)/\Row w8 (B+1) 243 #[(i:Int),(n:Int)]/\Row w8 (C+1) 27 #[V (Q C 0 I) 0 0]/\jI w8 w (Q C 0 I) 0 0 PF/\Ab w w w8/\w8.1.size=C+2/\B+1<C/\w.1.size<=B):=by
  rw[f1.out];obtain⟨a1,a2,a3,a4,a5⟩:=K4.out;have l1:=jIq w4 PF;rw[hC] at l1;have l2:=Row.new (w4.alloc (J #[] 9)) #[V (Q C 0 I) 0 0] 27;rw[show (w4.alloc (J #[] 9)).1.size=C+1 by simp[hC]] at l2;exact⟨(a1.alloc _).alloc _,(a2.alloc _).alloc _,l2,jI.base (Cb l1 _) (by omega),(a3.alloc (by omega) _).alloc (by simp;omega) _,by simp[hC],a4,a5⟩
 have K8:H (Row ((w4.alloc (J #[] 9)).alloc (J #[V (Q C 0 I) 0 0] 27)) B 259 (jV T n)):=by rw[<-f1.out];exact HN.1
 go_wp2_with (refine jGl rfl _ rfl B rfl T n K8.out ?_)
 rw[<-f1.out];clear hB hC t2 x0 y0 K8;refine(wpIn_wide (n:=2)).1 ?_;refine zP (recv:=RwV T n) (gf:=241) rfl (enters_of func241 (by kernel_rfl) rfl) (jDt T n h1 n2 i2) (fun _=>rfl)
  (fun s W=>Ab w w W/\∃ (p z c G cp:Nat) (O:Nat->BA),Row W (B+1) 243 #[(p:Int),(z:Int)]/\Row W (C+1) 27 #[V G c cp]/\jI W w G c cp O/\(G≠B+1/\G≠C+1/\(G<C+2\/C+5<=G))/\(∀ j,j<c->O j=PF j)/\c<=L/\(s.1=Av->z=s.2.1/\p<s.2.1/\c+pl p s.2.1=L/\∀ j,Gt.pf s.2.1 s.2.2 p j=PF (c+j))/\(s.1=Aw->c=L)) ?abide ?start ?round ?done
 case abide=>
  rintro s A A' j h1 h2 ⟨hb,p,z,c,G,cp,O,r1,r2,ho,hG,hO,hc,hf,ht⟩ hg;have hn:=HN.2.2.2.2.2;exact⟨qG hb hg hb.size (by omega),p,z,c,G,cp,O,r1.grown hg (by omega),r2.grown hg (by omega),jK ho hg (fun x e=>by cases e;simp;omega),hG,hO,hc,hf,ht⟩
 case start=>
  obtain⟨a1,a2,a3,a4,a5,a6,a7,a8⟩:=HN.out;exact⟨a5,i,n,0,C,0,PF,a2,a3,a4,⟨by omega,by omega,by omega⟩,fun _ _=>rfl,by omega,fun _=>⟨rfl,hi,by have:=HL.out;simp;omega,fun j=>by rw[Bt];exact j2.out j⟩,fun e=>by cases e⟩
 case round=>
  rintro l ⟨d,m,T'⟩ W q0 ⟨hb,p,z,c,G,cp,O,r1,r2,ho,hG,hO,hc,x1,ht⟩ j3;have hn:=HN.2.2.2.2.2;have hd:d=Av:=q0.1;obtain⟨hz,hp,o0,b2⟩:=x1 hd;subst hd;have k3:1<=m:=q0.2.1;have v2:m<=64:=q0.2.2.1;have o1:H (∀ i,i<m->(T' i).size=16):=q0.2.2.2;have u2:z=m:=hz;subst u2;have n3:p<z:=hp;have s0:H (c+pl p z=L):=o0;have HP:H (∀ j,Gt.pf z T' p j=PF (c+j)):=b2;have HO:H (∀ j,j<c->O j=PF j):=hO;clear x1 ht hz hp o0 b2 hO q0;have y2:=Oper.semAt_some;have i3:=jEh;have e3:=JD;have l3:=Tryz.mixed;have n1:H ((W.alloc (J (jV noT 0) 259)).setRow W.1.size (jV T' z)=W.alloc (J (jV T' z) 259)):=qK _ _ _ _;go_simp
  gi_wp2_with (first|(refine jJq rfl rfl ?_)|(refine jEt rfl _ _ rfl W.1.size rfl T' z rfl noT 0 (Row.new W _ _) ?_;rw[n1.out]))
  refine⟨E8 _ _ _,?_⟩;intro W2 p0 f2;obtain⟨X,hX⟩:∃ X,W.1.size=X:=⟨_,rfl⟩;have b3:C+4<X:=by omega
  have K5:H (Row W2 (B+1) 243 #[(p:Int),(z:Int)]/\Row W2 (C+1) 27 #[V G c cp]/\jI W2 w G c cp O/\Row W2 X 259 (jV T' z)/\Ab w w W2/\W2.1.size=X+1):=by
   have rx:=(Row.new W (jV T' z) 259).grown p0 (by omega);rw[hX] at rx;exact⟨(r1.alloc _).grown p0 (by omega),(r2.alloc _).grown p0 (by omega),jK (Cb ho _) p0 (fun x e=>by cases e;simp;omega),rx,qG (hb.alloc hb.size _) p0 (by simp;have:=hb.size;omega) (by omega),by rw[f2];simp[hX]⟩
  have HG:H (G≠B+1/\G≠C+1/\(G<C+2\/C+5<=G)/\w.1.size<=G):=⟨hG.1,hG.2.1,hG.2.2,(A0 ho _ rfl).1⟩;have Hn:H (w8.1.size=C+2/\B+1<C/\w.1.size<=B):=hn;obtain⟨p',i0⟩:∃ p',p / 2=p':=⟨_,rfl⟩;obtain⟨z',j0⟩:∃ z',hf z=z':=⟨_,rfl⟩;have KA:H (∀ w0,CB 229 #[SpV (p:Int) (z:Int)] w0 (SpV (p':Int) (z':Int))):=fun w0=>by rw[<-i0,<-j0];exact XB p z w0 (by omega) (by omega)
  obtain⟨c0,c1⟩:=K5.1.c2 0 1;simp at c0 c1;clear p0 f2 hb ho r1 r2 hG hn n1;by_cases hnb:nb p<z
  .have KN:H (∀ w0,CB 230 #[SpV (p:Int) (z:Int)] w0 (Ah #[Ao Ar ((nb p:Nat):Int),Aw])):=fun w0=>by
    have:=xB p z w0 (by omega)
    rw[show decide (nb p<z)=Aw by simpa using hnb] at this;exact this
   have g0:¬ z<=1:=by intro e;unfold nb at hnb;split at hnb <;> omega
   have HE:H (c+1<=L/\((rNx (Av,z,T')).1=Av->z'=(rNx (Av,z,T')).2.1/\p'<(rNx (Av,z,T')).2.1/\c+1+pl p' (rNx (Av,z,T')).2.1=L/\∀ j,Gt.pf (rNx (Av,z,T')).2.1 (rNx (Av,z,T')).2.2 p' j=PF (c+1+j))/\((rNx (Av,z,T')).1=Aw->c+1=L)):=by
    have o0:=s0.out;rw[Gt.pl_yes p g0 hnb,i0,j0] at o0;show _/\_;unfold rNx;rw[A5 g0];refine⟨by omega,fun _=>⟨j0.symm,?_,?_,fun j=>?_⟩,fun e=>(by cases e)⟩
    .show p'<hf z;rw[<-i0];unfold hf;omega
    .show c+1+pl p' (hf z)=L;rw[j0];omega
    .show Gt.pf (hf z) (up z T') p' j=_;rw[<-i0,<-Gt.pf_tl T' p j g0 hnb,HP.out,show c+(j+1)=c+1+j by omega]
   have HQ:H (T' (nb p)=PF c):=by
    have:=HP 0
    rw[Gt.pf_hd T' p g0 hnb] at this;exact this
   obtain⟨q,hq⟩:∃ q,nb p=q:=⟨_,rfl⟩;rw[hq] at KN HQ hnb;obtain⟨x,hx⟩:∃ x,T' q=x:=⟨_,rfl⟩;have b1:=o1 q hnb;rw[hx] at HQ b1;have KC:H (∀ w0,CB 120 #[Ag x] w0 (Ag x)):=fun w0=>qO x w0 (by omega)
   have o2:c<=64:=by omega
   have x2:(q:Int)<64:=by omega
   clear b1 i0 j0 s0 HP;gi_wp2_with fail
   refine(Fg l (Dv.2 (KN _))).mono ?_;rintro e w5 ⟨rfl,b0⟩;have K6:H (Row w5 (B+1) 243 #[(p:Int),(z:Int)]/\Row w5 (C+1) 27 #[V G c cp]/\jI w5 w G c cp O/\Row w5 X 259 (jV T' z)):=by
    obtain⟨a1,a2,a3,a4,a5,a6⟩:=K5.out;exact⟨a1.below b0 a1.lt,a2.below b0 a2.lt,a3.below b0,a4.below b0 a4.lt⟩
   have k1:=K6.2.1.cell 0;have k2:w5.cell? (Q X q I)=M (Ag x):=by rw[K6.out.2.2.2.cell q,vP _ _ _ (by omega),hx]
   simp at k1;clear c0 c1 hx;gi_wp2_with fail
   refine jQ0 (by assumption) 9 [([],[0,7,8]),([],[6,7,8]),([],[6,7,8]),([1,2],[6,7,8]),([3],[4,6,7,8]),([4],[5,6,7,8]),([5],[6,7,8]),([0,6],[7,8]),([6,7],[8])] (by kernel_rfl) (fun L A9 W=>∃ (w9:Ad) (g3:Nat) (c3:Nat),A9=⟨(List.toArray (α:=Aj) ((V a n cap)::((i:Int))::undef::undef::(V I 0 0)::(Av)::(Af (Q B 0 I))::(Aw)::(Af (Q (B+1) 0 I))::(Af (Q (C+1) 0 I))::(Af (Q X 0 I))::((q:Int))::(Aw)::(Ah #[RwV T n,Aw])::(V a n cap)::(Ah #[RwV T n,Aw])::(RwV T n)::(Aw)::((i:Int))::(V a n cap)::((n:Int))::(Ai #[(i:Int),(n:Int)])::(Aw)::(Av)::(Av)::(Ai #[(i:Int),(n:Int)])::(Aw)::(Av)::(Av)::undef::(V (Q C 0 I) 0 0)::(RwV T n)::(Value.func (Fn.func 241) #[RwV T n] #[])::(RwV T' z)::(Ah #[(q:Int),Aw])::(Ai #[(p:Int),(z:Int)])::(Ah #[(q:Int),Aw])::((q:Int))::(Aw)::(Aw)::(cX (L 0) (V G c cp) undef)::(cX (L 1) (q:Int) undef)::(cX (L 2) (Af (Q X 0 I)) undef)::(cX (L 3) (Af (Q X q I)) undef)::(cX (L 4) (Ag x) undef)::(cX (L 5) (Ag x) undef)::(cX (L 6) (V (Q w9 0 I) 1 1) undef)::(cX (L 7) (V g3 (c+1) c3) undef)::undef::undef::undef::[])),[]⟩/\(L 6=Av->Ab w5 w5 W)/\(L 6=Aw->Ab w5 w5 w9)/\(L 6=Aw->L 7=Av->W=w9.alloc (J #[Ag x] 9))/\(L 7=Aw->L 8=Av->jI W w g3 (c+1) c3 (fun j=>if j=c then x else O j)/\Row W (B+1) 243 #[(p:Int),(z:Int)]/\Row W (C+1) 27 #[V G c cp]/\(g3=G\/w9.1.size<g3)/\Kp (fun j=>j=G\/j=B+1\/j=C+1) w9 W)/\(L 8=Aw->∃ w3,W=w3.setCell (Q (C+1) 0 I) (V g3 (c+1) c3)/\jI w3 w g3 (c+1) c3 (fun j=>if j=c then x else O j)/\Row w3 (B+1) 243 #[(p:Int),(z:Int)]/\Row w3 (C+1) 27 #[V G c cp]/\(g3=G\/w9.1.size<g3)/\Kp (fun j=>j=G\/j=B+1\/j=C+1) w9 w3)) ?_ ?_ ?_
   .exact⟨w5,0,0,rfl,(fun _=>jD _),(fun h=>by cases h),(fun h=>by cases h),(fun h=>by cases h),(fun h=>by cases h)⟩
   .rintro a9 wx ⟨w9,g3,c3,s1,-,z0,-,-,i1⟩;simp only[Nat.reduceLT,Dp,jJ] at s1;subst s1;replace z0:=(z0 rfl)
    replace i1:=(i1 rfl)
    obtain⟨w3,rfl,h3⟩:=i1;have H3:H (jI w3 w g3 (c+1) c3 (fun j=>if j=c then x else O j)/\Row w3 (B+1) 243 #[(p:Int),(z:Int)]/\Row w3 (C+1) 27 #[V G c cp]/\(g3=G\/w9.1.size<g3)/\Kp (fun j=>j=G\/j=B+1\/j=C+1) w9 w3):=h3;have g1:Ab w5 w5 w9:=z0;clear h3 z0 k1 k2;have o3:C+1<w9.1.size:=Bu K6.2.1.lt g1.size;have q2:=H3.2.2.2.1;have z1:g3≠C+1:=by have:=HG.out;omega
    have y1:g3≠B+1:=by have:=HG.out;have:=Hn.out;omega
    have H6:H _:=jPv (v':=V g3 (c+1) c3) H3.1 H3.2.1 H3.2.2.1 (by have:=Hn.out;omega) z1;obtain⟨t0,t1⟩:=H6.2.1.c2 0 1;simp at t0 t1;gi_wp2_with fail
    refine(Fg l (Dv.2 (KA _))).mono ?_;rintro e w7 ⟨rfl,f0⟩;have a0:=jF6 p' z' H6.1 H6.2.1 H6.2.2 f0 y1 (by have:=Hn.out;omega);have HK:=jH5 (N:=w.1.size) (C:=C) b0 g1 H3.2.2.2.2 a0.2.2.2 q2 HG.2.2.1 (by have:=Hn.out;omega) (by omega) (by have:=K5.out.2.2.2.2.2;omega) K5.out.2.2.2.2.1 (by have:=K5.out.2.2.2.2.2;have:=Hn.out;omega) HG.out.2.2.2 (by have:=Hn.out;omega) (by have:=Hn.out;omega);have m0:H _:=HK;have u0:=(H6.2.1.below f0 H6.2.1.lt).cell 0;have u1:=(H6.2.1.below f0 H6.2.1.lt).cell 1;have v0:=(H6.2.1.below f0 H6.2.1.lt).free 0;have v1:=(H6.2.1.below f0 H6.2.1.lt).free 1;simp at u0 u1;clear HK t0 t1;gi_wp2
    exact⟨m0.1,fun j h1 h2=>m0.2.1 j (by have:=Hn.out;omega) (by have:=Hn.out;omega),m0.out.2.2,p',z',a0.out.1,c+1,g3,c3,a0.2.1,_,a0.2.2.1,⟨y1,z1,by have:=HG.out;have:=Hn.out;have:=K5.2.2.2.2.2;have:=b0.size;have:=g1.size;omega⟩,fun j hj=>(by by_cases e:j=c <;> simp only[e,C0,Dj] <;> first|exact HQ.out|exact HO j (by omega)),HE.out.1,HE.out.2.1,HE.out.2.2⟩
   .intro q9 s2 L a9 W S n0;match q9,s2 with
    | 1,_|2,_|3,_=>
     obtain⟨w9,g3,c3,rfl,hf⟩:=n0;simp only[knT,kn,knN] at S;refine qU rfl (fun _=>rfl) fun K hK=>?_
     try simp only[S,jJ]
     go_simp
     exact hK _ _ ⟨w9,g3,c3,(by simp only[Nat.reduceBEq,Bh,Bq,jJ,S]),hf⟩
    | 0,_=>
     obtain⟨w9,g3,c3,rfl,h0,h1,h2,h3,h4⟩:=n0;obtain⟨e0,e7,e8,-⟩:=S;have m1:W.cell? (Q (C+1) 0 I)=M (V G c cp):=by
      cases h9:L 6 with
      | false=>exact(K6.2.1.below (h0 h9) K6.2.1.lt).cell 0
      | true=>rw[h2 h9 e7];exact((K6.2.1.below (h1 h9) K6.2.1.lt).alloc _).cell 0
     refine qU rfl (fun _=>rfl) fun K hK=>?_
     go_simp
     exact hK _ _ ⟨w9,g3,c3,(by simp only[Nat.reduceBEq,Bh,Bq,jJ,e7]),h0,h1,h2,(ab e7),(ab e8)⟩
    | 4,_=>
     obtain⟨w9,g3,c3,rfl,h0,h1,h2,h3,h4⟩:=n0;obtain⟨d3,e4,e6,e7,e8,-⟩:=S;have m2:W.cell? (Q X q I)=M (Ag x):=by
      exact((K6.2.2.2.below (h0 e6) K6.2.2.2.lt).cell q).trans ((K6.2.2.2.cell q).symm.trans k2)
     refine qU rfl (fun _=>rfl) fun K hK=>?_
     simp only[d3,jJ];go_simp
     exact hK _ _ ⟨w9,g3,c3,(by simp only[Nat.reduceBEq,Bh,Bq,jJ,d3,e6,e7]),h0,(ab e6),(ab e6),(ab e7),(ab e8)⟩
    | 5,_=>
     obtain⟨w9,g3,c3,rfl,h0,h1,h2,h3,h4⟩:=n0;obtain⟨d4,e5,e6,e7,e8,-⟩:=S;refine qU rfl (fun _=>rfl) fun K hK=>?_
     simp only[d4,jJ];go_simp
     gi_at_call 120
     refine(Fg l (Dv.2 (KC _))).mono ?_;rintro e w8 ⟨rfl,b8⟩;exact hK _ _ ⟨w9,g3,c3,(by simp only[Nat.reduceBEq,Bh,Bq,jJ,d4,e6,e7]),(fun k0=>jA (h0 e6) b8),(ab e6),(ab e6),(ab e7),(ab e8)⟩
    | 6,_=>
     obtain⟨w9,g3,c3,rfl,h0,h1,h2,h3,h4⟩:=n0;obtain⟨d5,e6,e7,e8,-⟩:=S;refine qU rfl (fun _=>rfl) fun K hK=>?_
     simp only[d5,jJ];go_simp
     exact hK _ _ ⟨W,g3,c3,(by simp only[Nat.reduceBEq,Bh,Bq,jJ,d5,e7]),nf,(fun k0=>h0 e6),(fun k0 k1=>rfl),(ab e7),(ab e8)⟩
    | 7,_=>
     obtain⟨w9,g3,c3,rfl,h0,h1,h2,h3,h4⟩:=n0;obtain⟨d0,d6,e7,e8,-⟩:=S;have b9:=h1 d6;obtain⟨g3,c3,w3,e2,H3⟩:=jPj x (K6.2.2.1.below b9) (K6.1.below b9 K6.1.lt) (K6.2.1.below b9 K6.2.1.lt) HG.1 HG.2.1 o2;obtain rfl:=h2 d6 e7;refine qU rfl (fun _=>rfl) fun K hK=>?_
     simp only[d0,d6,jJ];refine jE1 _ _ 27 rfl 27 rfl (V G c cp) (V (M ⟨w9.1.size,0,I⟩) 1 1) rfl rfl _ _ e2 ?_;exact hK _ _ ⟨w9,g3,c3,(by simp[Act.put,jJ,d0,d6]),(ba d6),h1,(fun _=>nf),(fun k0 k1=>H3.out),(ab e8)⟩
    | 8,_=>
     obtain⟨w9,g3,c3,rfl,h0,h1,h2,h3,h4⟩:=n0;obtain⟨d6,d7,e8,-⟩:=S;have q3:=h3 d7 e8;have m3:=q3.2.2.1.cell 0;have f3:=q3.2.2.1.free 0;simp at m3;refine qU rfl (fun _=>rfl) fun K hK=>?_
     simp only[d7,jJ];go_simp
     exact hK _ _ ⟨w9,g3,c3,(by simp only[Nat.reduceBEq,Bh,d6,d7,jJ]),(ba d6),h1,(fun _=>ba d7),(fun _=>nf),(fun k0=>⟨_,rfl,q3⟩)⟩
    | n9+9,h=>exact Bo h (by omega)
  .have KN:H (∀ w0,CB 230 #[SpV (p:Int) (z:Int)] w0 (Ah #[Ao Ar ((nb p:Nat):Int),Av])):=fun w0=>by
    have:=xB p z w0 (by omega)
    rw[show decide (nb p<z)=Av by simpa using hnb] at this;exact this
   have HE:H (((rNx (Av,z,T')).1=Av->z'=(rNx (Av,z,T')).2.1/\p'<(rNx (Av,z,T')).2.1/\c+pl p' (rNx (Av,z,T')).2.1=L/\∀ j,Gt.pf (rNx (Av,z,T')).2.1 (rNx (Av,z,T')).2.2 p' j=PF (c+j))/\((rNx (Av,z,T')).1=Aw->c=L)):=by
    have o0:=s0.out;show _/\_;unfold rNx;by_cases g0:z<=1
    .rw[A6 g0];rw[Gt.pl_one p g0] at o0;exact⟨fun e=>(by cases e),fun _=>by omega⟩
    .rw[A5 g0];rw[Gt.pl_no p g0 hnb,i0,j0] at o0;refine⟨fun _=>⟨j0.symm,?_,?_,fun j=>?_⟩,fun e=>(by cases e)⟩
     .show p'<hf z;rw[<-i0];unfold hf;omega
     .show c+pl p' (hf z)=L;rw[j0];omega
     .show Gt.pf (hf z) (up z T') p' j=_;rw[<-i0,<-Gt.pf_no T' p j g0 hnb,HP.out]
   generalize nb p=q at KN;clear i0 j0 s0 HP hnb;gi_wp2_with fail
   refine(Fg l (Dv.2 (KN _))).mono ?_;rintro e w5 ⟨rfl,b0⟩;have K6:H (jI w5 w G c cp O/\Row w5 (B+1) 243 #[(p:Int),(z:Int)]/\Row w5 (C+1) 27 #[V G c cp]):=by
    obtain⟨a1,a2,a3,a4,a5,a6⟩:=K5.out;exact⟨a3.below b0,a1.below b0 a1.lt,a2.below b0 a2.lt⟩
   obtain⟨t0,t1⟩:=K6.2.1.c2 0 1;simp at t0 t1;clear c0 c1;gi_wp2_with fail
   refine(Fg l (Dv.2 (KA _))).mono ?_;rintro e w7 ⟨rfl,f0⟩;have a0:=jF6 p' z' K6.1 K6.2.1 K6.2.2 f0 HG.1 (by have:=Hn.out;omega);have m0:H (Kp (fun j=>j=G\/j=B+1\/j=C+1) W2 ((w7.setCell (Q (B+1) 0 I) (p':Int)).setCell (Q (B+1) 1 I) (z':Int))):=(Kp.below b0).trans a0.2.2.2;have u0:=(K6.2.1.below f0 K6.2.1.lt).cell 0;have u1:=(K6.2.1.below f0 K6.2.1.lt).cell 1;have v0:=(K6.2.1.below f0 K6.2.1.lt).free 0;have v1:=(K6.2.1.below f0 K6.2.1.lt).free 1;simp at u0 u1;clear t0 t1;gi_wp2
   exact⟨m0.size,fun j h1 h2=>m0.block j (by have:=K5.2.2.2.2.2;have:=Hn.out;omega) (by have:=Hn.out;have:=HG.out;omega),m0.out.base K5.out.2.2.2.2.1 (by have:=K5.2.2.2.2.2;have:=Hn.out;omega) (fun j hj=>by have:=Hn.out;have:=HG.out;omega),p',z',a0.out.1,c,G,cp,a0.out.2.1,O,a0.2.2.1,⟨HG.1,HG.2.1,HG.2.2.1⟩,HO,by omega,HE.out.1,HE.out.2⟩
 case done=>
  rintro s W hf ⟨hb,p,z,c,G,cp,O,r1,r2,ho,hG,hO,hc,_,ht⟩ hK;have p2:c=L:=ht hf;subst p2;have e0:=r2.cell 0;simp at e0;have HR:H (jI W w G c cp PF):=ho.congr hO;clear ho;go_wp2
  refine⟨by simp,.inl ⟨_,_,rfl,run_takeDeferred hK,?_⟩⟩;refine⟨_,results_tmp2 rfl _ _ _,_,rfl,⟨_,_,rfl,?_⟩,qG hb (qS _ _ _) hb.size (by have:=HN.out;omega)⟩;exact jK HR (qS _ _ _) (fun x e=>by cases e;have:=HN.out.2.2.2.2.2;simp;omega)
end
section
open Gt (hf up nb pl)
theorem jAk {n:Nat} {S:Nat->BA} {i:Int} (h:pfB n S i=Aw):lvB n S=Aw/\inT i (n:Int)=Aw:=by
 unfold pfB at h;rwa [Cs] at h
theorem jOu (n:Nat) (S:Nat->BA) (i:Int):pfR n S i<=16:=by
 unfold pfR;by_cases h:pfB n S i=Aw
 .rw[A6 h];have a0:=(vF (jAk h).1).2.1;have:=Gt.pl_le 6 i.toNat n (by omega)
  omega
 .rw[A5 h];omega
theorem jKt (a:OA) (n cap:Nat) (S:Nat->BA) (i:Int) (w:Ad) (h:jL w a n S) (hn:n<=1048576) (hL:∀ i,i<n->(S i).size<=Au):Ak prog 226 #[V a n cap,Ao Ar i] w fun e w'=>∃ v,e=Ae (Ah #[v,(pfB n S i)])/\jCp w w' v (pfR n S i) (pfF n S i)/\Ab w w w':=by
 unfold pfR;cases hB:pfB n S i with
 | false=>exact jM5 a n cap S i w h hn hL hB
 | true=>
  obtain⟨h1,h2⟩:=jAk hB;obtain⟨i',rfl⟩:∃ i':Nat,i=(i':Int):=⟨i.toNat,by simp[inT] at h2;omega⟩;exact jKu a n cap S i' w h h1 h2
theorem jIc (a:OA) (n cap:Nat) (S:Nat->BA) (i:Int) (w:Ad) (h:jL w a n S) (hn:n<=1048576) (hL:∀ i,i<n->(S i).size<=Au):Ak prog 165 #[V a n cap,Ao Ar i] w fun e w'=>∃ v,e=Ae (Ah #[v,(pfB n S i)])/\jCp w w' v (pfR n S i) (pfF n S i)/\Ab w w w':=by
 have k0:Ab w w (w.alloc (J #[] 9)):=(Az _ _).alloc (Ay _) _;have KV:H (Ak prog 189 #[V a n cap] (w.alloc (J #[] 9)) fun e w'=>e=Ae (lvB n S)/\w'=w.alloc (J #[] 9)):=QD a n cap S _ (h.below k0) hn hL;obtain⟨PF,u0⟩:=nnH (pfF n S i);have j0:H (jI (w.alloc (J #[] 9)) w (Q w 0 I) 0 0 PF):=jIq w _;have g0:H (Ab w w (w.alloc (J #[] 9))):=k0;rw[u0.out];unfold pfR;cases hV:lvB n S with
 | false=>
  rw[hV] at KV;have hB:pfB n S i=Av:=by unfold pfB;rw[hV];rfl
  rw[hB];clear h hL hB hV k0;go_enter func165,ntmps165
  go_wp2_with (go_at_call 189;refine KV.mono ?_;rintro e w' ⟨rfl,hw⟩;obtain rfl:=hw.symm)
  go_ret2
  exact⟨_,rfl,⟨_,_,rfl,j0⟩,g0⟩
 | true=>
  rw[hV] at KV;obtain⟨h1,h64,w0⟩:=vF hV;have n1:IntKind.i64.wrap ((n:Int)-1)=(n:Int)-1:=by rw[A8];omega
  by_cases hin:0<=i/\i<=(n:Int)-1
  .have KI:inB i 0 ((n:Int)-1)=Aw:=QN hin;obtain⟨i',rfl⟩:∃ i':Nat,i=(i':Int):=⟨i.toNat,by omega⟩;have hB:pfB n S (i':Int)=Aw:=by unfold pfB;rw[hV];simp[inT];omega
   rw[hB,A6 rfl];simp only[Cy];obtain⟨L,HL⟩:=nnH (pl i' n);have r1:L<=6:=by rw[<-HL.out];exact Gt.pl_le 6 _ _ (by omega)
   rw[HL.out];have HP0:H (∀ j,Gt.pf n S i' j=PF j):=fun j=>by rw[<-u0.out];rfl
   obtain⟨i0,hi,z0,a1,b1⟩:=Cg Tryz.infoStr;obtain⟨b,off,rfl,r0⟩:=h.some (by omega);have o1:b<w:=A7 (r0 0 (by omega));obtain⟨w1,q0⟩:=nmH (w.alloc (J #[] 9));rw[<-q0.out] at KV j0 g0;have s0:H (w1.1.size=w.1.size+1):=by show _=_;rw[q0.out];simp
   have HN:H (∀ j u,(sL S n)[j]?=M u->(w1.alloc (J #[] 9)).cell? (((Q b off I):Al).add j)=M u):=jK6 (fun i hi=>by
    have hb:Ab w w (w1.alloc (J #[] 9)):=g0.alloc (by have:=s0.out;omega) _;exact(hb.cell (p:=Q b (off+i) I) o1).trans (r0 i hi))
   have KL:H (jI (w1.alloc (J #[] 9)) w1 (Q w1 0 I) 0 0 S):=jIq w1 _;have H1:H (∀ u∈sL S n,u.oneCell'=Aw):=jOy S n;have H16:H (∀ i,i<n->(S i).size=16):=w0;clear h hL hB hV k0 r0 w0;go_enter func165,ntmps165
   go_wp2_with fail
   rw[<-q0.out];go_wp2_with (first|(go_at_call 189;refine KV.out.mono ?_;rintro e w' ⟨rfl,hw⟩;obtain rfl:=hw.symm)|(go_at_call 43;refine(jN _ _ _ _).mono ?_;rintro e w' ⟨rfl,hw⟩;obtain rfl:=hw.symm)|(at_builtin;refine De _ rfl _ _ 27 rfl w1 9 i0 Ap 1 16 C3 hi z0 a1 b1 rfl (by decide) (V (M ⟨w1.1.size,0,I⟩) 0 0) 0 _ rfl KL.out ⟨b,off,I⟩ n cap (sL S n) rfl (by rw[qX];omega) HN.out H1.out (by omega) (by unfold Au;omega) (by omega) (by simp) (w1.1.size+1) (by simp) ?_;intro g3 cap3 w3 hown3 hgrow3 hat3 hlt3))
   have HS0:H (jI w3 w g3 n cap3 S/\jI w3 w (Q w 0 I) 0 0 PF/\Ab w w w3/\g3≠w.1.size):=by
    have hz:=s0.out;have h0:World.grownBy (w1.alloc (J #[] 9)) w3 (M w1.1.size):=hgrow3;have hx:sL S 0++sL S n=sL S n:=rfl;rw[hx,Bt] at hown3;refine⟨jI.base hown3 (by omega),jK (Cb j0.out _) h0 (fun x e=>by cases e;simp;omega),(g0.out.alloc (by omega) _).grown h0 (by simp;omega) (fun j hj=>by cases hj;omega),?_⟩;rcases hat3 with e|e
    .have e':M w1.1.size=M g3:=e;cases e';omega
    .omega
   clear hown3 hgrow3 hat3 hlt3 KL HN H1 KV j0 g0 s0;try simp only[Bt]
   go_loopg [1,6,7] n (fun gk vi vo vr wr=>∃ (m G c p Go k co:Nat) (R O:Nat->BA),m=gk/\p<m/\m<=64/\vi=Ao Ar (p:Int)/\vo=V Go k co/\vr=V G m c/\jI wr w G m c R/\jI wr w Go k co O/\G≠Go/\k<=L/\H (∀ j,j<k->O j=PF j)/\H (k+pl p m=L)/\H (∀ j,Gt.pf m R p j=PF (k+j))/\H (∀ i,i<m->(R i).size=16)/\Ab w w wr)
   case atStart=>exact⟨n,g3,cap3,i',w.1.size,0,0,S,PF,rfl,by omega,h64,rfl,rfl,rfl,HS0.out.1,HS0.out.2.1,HS0.2.2.2,by omega,fun j hj=>by omega,by show 0+_=_;rw[Bt];exact HL,fun j=>by rw[Bt];exact HP0 j,H16,HS0.2.2.1⟩
   case round=>
    obtain⟨m,G,c,p,Go,k,co,R,O,rfl,hp,o0,rfl,rfl,rfl,d0,a0,j1,hkL,HO,HC,HP,HS,e0⟩:=hrel;clear HS0 H16 HL HP0 hin n1;have t0:=e0.size;by_cases e1:m<=1
    .have i1:¬ (1:Int)<(m:Int):=by omega
     have HE:H (jI wr w Go L co PF):=by
      have:=HC.out
      rw[Gt.pl_one p e1] at this;have m1:k=L:=by omega
      rw[<-m1];exact a0.congr HO
     have Hk:H (k=L):=by
      have:=HC.out
      rw[Gt.pl_one p e1] at this;show _=_;omega
     clear d0 a0;go_wp2
     go_ret2
     exact⟨_,rfl,⟨_,_,by rw[<-Hk.out];rfl,HE⟩,e0⟩
    .have i1:(1:Int)<(m:Int):=by omega
     obtain⟨u1,u2,u3,u4,u5,u6,u7,u8,u9⟩:=jFr p m hp o0;have hlt:p / 2<hf m/\hf m<m:=by unfold hf;omega
     have HS2:H (∀ i,i<hf m->(up m R i).size=16):=Gt.up_size HS;have HU:H (∀ W,jL W G m R->Ak prog 190 #[V G m c] W fun e w'=>∃ g c,e=Ae (V (Q g 0 I) (hf m) c)/\jI w' W.1.size (Q g 0 I) (hf m) c (up m R)/\Ab W.1.size W w'):=fun W hW=>jLc _ m c R W hW o0 HS
     by_cases hnb:nb p<m
     .have m0:((nb p:Nat):Int)<(m:Int):=by omega
      have HC2:H (k+1+pl (p / 2) (hf m)=L):=by have:=HC.out;rw[Gt.pl_yes p e1 hnb] at this;show _=_;omega
      have HP2:H (∀ j,Gt.pf (hf m) (up m R) (p / 2) j=PF (k+1+j)):=fun j=>by rw[<-Gt.pf_tl R p j e1 hnb,HP.out,show k+(j+1)=k+1+j by omega]
      have HQ:H (R (nb p)=PF k):=by have:=HP 0;rw[Gt.pf_hd R p e1 hnb] at this;exact this
      have hck:k+1<=L:=by have:=HC2.out;omega
      obtain⟨b',q1,eq,y0⟩:=(jI.at d0).some (by omega);cases eq;have cq:=y0 (nb p) hnb;simp only[Bt] at cq;generalize R (nb p)=x at cq HQ;generalize nb p=q at u4 m0 cq;generalize p / 2=p' at u5 u6 hlt HC2 HP2;generalize hf m=m' at u8 u9 hlt HC2 HP2 HS2 HU;generalize up m R=R' at HP2 HS2 HU;have KR:H (jI wr w G m c R):=d0;have KO:H (jI wr w Go k co O):=a0;have c1:=A0 a0 _ rfl;have lG:=A0 d0 _ rfl;clear d0 a0 y0 hnb HC HP HS;go_wp2_with (at_builtin;refine De _ rfl _ _ 27 rfl w 9 i0 Ap 1 16 C3 hi z0 a1 b1 rfl (by decide) (V Go k co) k _ rfl (Cb KO.out _) ⟨wr.1.size,0,I⟩ 1 1 [Ag x] rfl rfl (Cf (cs:=#[Ag x]) (t:=9) (fr:=(0,0)) (Cq wr _)) (by simp[Aq]) (by omega) (by unfold Au;omega) (by omega) (by simp;omega) (wr.1.size+1) (by simp) ?_;intro g4 cap4 w4 n0 f0 x0 p1)
      have h0:World.grownBy (wr.alloc (J #[Ag x] 9)) w4 (M Go):=f0;have g1:H (jI w4 w G m c R):=jK (Cb KR _) h0 (fun y e=>by cases e;exact j1);have v0:H (Ab w w w4):=(e0.alloc t0 _).grown h0 (by simp;omega) (fun j hj=>by cases hj;exact c1.1);have f1:H (jI w4 w g4 (k+1) cap4 (fun j=>if j=k then x else O j)):=by
       have hx:sL (fun j=>if j=k then x else O j) (k+1)=sL O k++[Ag x]:=by
        rw[QC,xR (S':=O) (fun i hi=>by rw[A5 (by omega)])];simp
       show jI _ _ _ _ _ _;unfold jI;rw[hx];exact n0
      clear n0 f0 x0 h0 cq KR KO;refine(HU _ (jI.at g1)).mono ?_;rintro e w9 ⟨g9,c9,rfl,c0,b0⟩;have p0:=v0.size;have HR9:H (jI w9 w g9 m' c9 R'):=c0.base p0;have k1:=(A0 c0 _ rfl).1;have HO9:H (jI w9 w g4 (k+1) cap4 (fun j=>if j=k then x else O j)):=f1.below b0;have HB9:H (Ab w w w9):=v0.trans (b0.mono p0);have HQQ:H (∀ j,j<k+1->(if j=k then x else O j)=PF j):=fun j hj=>by
       by_cases e:j=k
       .rw[A6 e,e];exact HQ
       .rw[A5 e];exact HO j (by omega)
      clear c0 b0;go_wp2
      go_roundg m'
      case measure=>exact hlt.2
      case rel=>exact⟨m',g9,c9,p',g4,k+1,cap4,R',_,rfl,hlt.1,by omega,rfl,rfl,rfl,HR9.out,HO9.out,by omega,hck,HQQ,HC2,HP2,HS2,HB9.out⟩
     .have m0:¬ ((nb p:Nat):Int)<(m:Int):=by omega
      have HC2:H (k+pl (p / 2) (hf m)=L):=by have:=HC.out;rw[Gt.pl_no p e1 hnb] at this;exact this
      have HP2:H (∀ j,Gt.pf (hf m) (up m R) (p / 2) j=PF (k+j)):=fun j=>by rw[<-Gt.pf_no R p j e1 hnb,HP.out]
      generalize nb p=q at u4 m0;generalize p / 2=p' at u5 u6 hlt HC2 HP2;generalize hf m=m' at u8 u9 hlt HC2 HP2 HS2 HU;generalize up m R=R' at HP2 HS2 HU;have KR:H (jI wr w G m c R):=d0;have KO:H (jI wr w Go k co O):=a0;have c1:=A0 a0 _ rfl;clear d0 a0 HC HP HS;go_wp2_with fail
      refine(HU _ (jI.at KR)).mono ?_;rintro e w9 ⟨g9,c9,rfl,c0,b0⟩;have HR9:H (jI w9 w g9 m' c9 R'):=c0.base t0;have k1:=(A0 c0 _ rfl).1;have HO9:H (jI w9 w Go k co O):=KO.below b0;have HB9:H (Ab w w w9):=e0.trans (b0.mono t0);clear c0 b0;go_wp2
      go_roundg m'
      case measure=>exact hlt.2
      case rel=>exact⟨m',g9,c9,p',Go,k,co,R',O,rfl,hlt.1,by omega,rfl,rfl,rfl,HR9.out,HO9.out,by omega,hkL,HO,HC2,HP2,HS2,HB9.out⟩
  .have KI:inB i 0 ((n:Int)-1)=Av:=ZY hin;have hB:pfB n S i=Av:=by unfold pfB;rw[hV];simp[inT];omega
   rw[hB];clear h hL hB hV k0;go_enter func165,ntmps165
   go_wp2_with (first|(go_at_call 189;refine KV.mono ?_;rintro e w' ⟨rfl,hw⟩;obtain rfl:=hw.symm)|(go_at_call 43;refine(jN _ _ _ _).mono ?_;rintro e w' ⟨rfl,hw⟩;obtain rfl:=hw.symm))
   go_ret2
   exact⟨_,rfl,⟨_,_,rfl,j0⟩,g0⟩
end
noncomputable def lvs (k:Int) (n:Nat) (S:Nat->BA):Nat->BA:=fun i=>plf k (n:Int) (i:Int) (S i)
theorem jJx (k:Int) (n:Nat) (S:Nat->BA) (i:Nat):(lvs k n S i).size<=16:=jSb _ _ _ _
theorem Tryz.infoCut:(Tryz.prog.info? 237).map (·.size)=M 4:=by kernel_rfl
theorem jL6 (k:Int) (a:OA) (n cap:Nat) (S:Nat->BA) (w:Ad) (h:jL w a n S) (hn:n<=64) (hS:∀ i,i<n->(S i).size<=1048576):Ak prog 210 #[k,V a n cap] w fun e w'=>∃ G,e=Ae (Ai #[k,V a n cap,V (Q G 0 I) n n,(rtS n (lvs k n S))])/\jI w' w (Q G 0 I) n n (lvs k n S)/\Ab w w w':=by
 obtain⟨i0,hi,c1,e1,g1⟩:=Cg Tryz.infoStr;obtain⟨B,HB⟩:=nmH w.1.size;obtain⟨w0,k0⟩:=nmH (w.alloc (J #[(),V I 0 0,V I 0 0,Zs] 237));have t0:=jZ k0 HB;have n0:=bl1 k0;have a1:B<w0:=t0.lt;have KH:H (jL w0 a n S):=h.below n0;have m0:H (Ab w w w0):=n0;have KS:H (∀ i,i<n->(S i).size<=1048576):=hS;obtain⟨L,HL⟩:=nnH (lvs k n S);have s0:H (∀ i,(L i).size<=16):=fun i=>by rw[<-HL.out];exact jJx _ _ _ _
 rw[HL.out];clear h n0 hS;go_enter func210,ntmps210
 go_wp2_with (at_make;rw[<-k0.out,<-HB.out];refine Cv _ rfl _ _ 27 rfl w0 9 i0 Ap 1 C3 hi c1 e1 Ar Ar _ _ n rfl rfl rfl rfl (by rw[g1];omega) (by unfold Au;omega) (Ay _) ?_;intro w1 a0 e0)
 have v0:Ab w0 w0 w1:=(Az _ _).grown e0 (Ay _) (by simp);obtain⟨G,HG⟩:=nmH w0.1.size;have K1:H (jI w1 w0 (Q G 0 I) n n (fun i=>if i<0 then L i else Ap)):=by
  have e:sL (fun i=>if i<0 then L i else Ap) n=List.replicate n (Ag Ap):=by rw[<-ZL];exact xR (fun i _=>by simp)
  show jI _ _ _ _ _ _;unfold jI;rw[e,HG.out];simpa [Value.cells,Do] using a0
 have KB1:H (Ab w0 w0 w1):=v0;rw[<-HG.out];clear a0 e0 v0 hi c1 e1 g1;go_loopw [15] (fun i wr=>∃ c:Nat,c<=n/\i=Ao Ar c/\jI wr w0 (Q G 0 I) n n (fun i=>if i<c then L i else Ap)/\Ab w0 w0 wr) (fun i _=>n-(intOf i).toNat)
 case atStart=>exact⟨0,Bi _,rfl,K1,KB1⟩
 case round=>
  obtain⟨c,hk,rfl,a0,b0⟩:=hrel;clear K1 KB1;by_cases hlt:c<n
  .have p1:(c:Int)<(n:Int):=by omega
   obtain⟨b1,o1,rfl,x0⟩:=(KH.below b0) c hlt;have KC:H (∀ W,CB 184 #[k,(n:Int),(c:Int),(S c)] W (L c)):=fun W=>by
    have:=QV k (n:Int) (c:Int) (S c) W (KS c hlt)
    rw[<-HL.out];exact this
   have z0:=(A0 a0 _ rfl).2;obtain⟨old,j0⟩:∃ v,wr.cell? (Q G c I)=M v:=by
    rw[Br a0 c (by omega)];exact⟨_,zB _ _ _ hlt⟩
   have y0:=B0 a0 c;have KO:H (jI wr w0 (Q G 0 I) n n (fun i=>if i<c then L i else Ap)):=a0;have KB:H (Ab w0 w0 wr):=b0;have k1:w0.1.size<=G:=by rw[HG.out];exact Ay _
   clear a0 b0;generalize S c=sc at x0 KC;go_wp2_with fail
   refine CM (KC _) fun w2 h0=>?_
   have m1:=(h0.cell (p:=Q G c I) z0).trans j0;have n1:=(Cx (a:=(Q G c I)) (h0.block _ z0)).trans y0;have p0:=Dh (jI.below KO h0) c (L c);rw[jA8 _ _ _ _ hlt] at p0;have HO:H (jI (w2.setCell (Q G c I) (L c)) w0 (Q G 0 I) n n (fun i=>if i<c+1 then L i else Ap)):=jI.congr p0.1 (fun i _=>by
    by_cases e:i=c
    .simp[e]
    .by_cases e2:i<c
     .simp[e,e2,show i<c+1 by omega]
     .simp[e,e2,show ¬ i<c+1 by omega])
   have HB':H (Ab w0 w0 (w2.setCell (Q G c I) (L c))):=(jA KB h0).setCell k1 _;generalize L c=sv at HO HB';clear p0 j0 y0 KC KO KB x0;go_wp2
   go_roundw
   case rel=>exact⟨c+1,by omega,by go_num,HO.out,HB'.out⟩
   case measure=>simp[intOf] <;> omega
  .obtain rfl:c=n:=by omega
   have HO:H (jI wr w0 (Q G 0 I) c c L):=a0.congr (fun i hi=>A6 hi);have r0:H (Ab w0 w0 wr):=b0;have KR:H (CB 225 #[V (Q G 0 I) c c] wr (Ah #[(rtS c L),(lvB c L)])):=jM7 _ _ _ L _ (jI.at HO) (by omega) (fun i _=>by have:=s0.out i;unfold Au;omega);obtain⟨rt,u0⟩:=nnH (rtS c L);rw[u0.out] at KR;generalize lvB c L=okr at KR;clear a0 b0 KH;go_wp2_with fail
   refine CM KR.out fun w3 o0=>?_
   have d0:=jA r0 o0;have c0:H (Row w3 B 237 #[(),V I 0 0,V I 0 0,Zs]):=t0.below d0 a1;have HO3:H (jI w3 w0 (Q G 0 I) c c L):=jI.below HO o0;obtain⟨q0,q1,q2,q3⟩:=c0.c4 0 1 2 3;have f0:=c0.free 0;have f1:=c0.free 1;have f2:=c0.free 2;have f3:=c0.free 3;simp at q0 q1 q2 q3;clear HO r0 o0 KR;have ZR:H (Row ((((w3.setCell B k).setCell (Q B 1 I) (V a c cap)).setCell (Q B 2 I) (V (Q G 0 I) c c)).setCell (Q B 3 I) rt) B 237 #[k,V a c cap,V (Q G 0 I) c c,rt]):=(((c0.set 0 _).set 1 _).set 2 _).set 3 _;have j1:G≠B:=by rw[HG.out];omega
   have g0:w.1.size<=B:=by rw[HB.out];exact Ay _
   have i1:H (Ab w w w3):=m0.trans (d0.mono m0.size);have set1:∀ (W:Ad) (o:Nat) (v:Aj),jI W w0 (Q G 0 I) c c L->jI (W.setCell (Q B o I) v) w0 (Q G 0 I) c c L:=fun W o v hW=>jK hW (jP _ _ _ _) (fun x e=>by cases e;exact j1)
   have ZO:H (jI ((((w3.setCell B k).setCell (Q B 1 I) (V a c cap)).setCell (Q B 2 I) (V (Q G 0 I) c c)).setCell (Q B 3 I) rt) w (Q G 0 I) c c L):=jI.base (set1 _ _ _ (set1 _ _ _ (set1 _ _ _ (set1 _ _ _ HO3)))) m0.size;clear set1 d0;go_wp2
   refine B7 (v:=Ai #[k,V a c cap,V (Q G 0 I) c c,rt]) (Ck results210 _ _ B 237 _ (0,0) _ (by simp) ZR underlying237 rfl Tryz.infoCut) rfl ⟨G,by rw[u0.out],ZO,?_⟩;exact Bn (Bn (Bn (Bn i1 g0 _) g0 _) g0 _) g0 _
theorem JV {s:BA} {k n:Int} (h:vK s k n=Aw):s.size<=2000/\1<=k/\k<=n/\n<=16:=by
 unfold vK at h;rw[Cs] at h;exact⟨Dn h.1,zM h.2⟩
theorem jEq {s:BA} {k n:Int} (h:vK s k n=Aw) (i:Nat):(ZE s k.toNat i).size<=2002:=by
 obtain⟨h1,h2,h3,h4⟩:=JV h;rw[show (ZE s k.toNat i).size=XE s.size k.toNat from zO _ _];have:=ZP (s:=s.size) (k:=k.toNat) (by omega)
 omega
end Go.Proofs.YtcaejlalnjnifaaGreat
