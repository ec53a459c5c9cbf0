import Derived.Test.YtcaejlalnjnifaaGreatP20
import Derived.Test.YtcaejlalnjnifaaGreatP9
import Derived.Test.YtcaejlalnjnifaaGreatP21
set_option maxHeartbeats 8000000
set_option maxRecDepth 2000
open Go.Value renaming slice->V,string->Ag,tuple->Ah,agg->Ai,int->Ao,oneCell'->Aq
open Option renaming none->I,some->M
open Go.RowKit renaming Hid->H,Below->Ab
open Go.Addr renaming mk->Q
open Go renaming undef->O,World->Ad,Value->Aj,Calls->Ak,Addr->Al,maxLen->Au
open Go.Obj renaming cells->J
open Go.Proofs.Tryz renaming prog->Ac
open Go.Ending renaming returned->Ae
open ByteArray renaming empty->Ap
open Go.IntKind renaming i64->Ar
open Bool renaming false->Av,true->Aw
open Go.Proofs.Tryz
open Go.ChangeShapes Go.WideShapes Go.ChangeAt Go.RowKit
namespace Go.Proofs.YtcaejlalnjnifaaGreat
open Go.ChangeShapes Go.WideShapes Go.ChangeAt Go.RowKit Go.Shelf
open Gt (hf up nb pl)
theorem jFx {W6 w7:Ad} {Bm Bs Bl G c cp:Nat} {a0 a1:Aj} {vl:Array Aj} {O:Nat->BA} (p' s':Nat) (ho:jI W6 Bm G c cp O) (rs:Row W6 Bs 243 #[a0,a1]) (rl:Row W6 Bl 27 vl) (hb:Ab W6 W6 w7) (hs:G≠Bs) (hl:Bl≠Bs):H (Row ((w7.setCell Bs (p':Int)).setCell (Q Bs 1 I) (s':Int)) Bs 243 #[(p':Int),(s':Int)]/\Row ((w7.setCell Bs (p':Int)).setCell (Q Bs 1 I) (s':Int)) Bl 27 vl/\jI ((w7.setCell Bs (p':Int)).setCell (Q Bs 1 I) (s':Int)) Bm G c cp O/\Kp (fun j=>j=G\/j=Bs\/j=Bl) W6 ((w7.setCell Bs (p':Int)).setCell (Q Bs 1 I) (s':Int))):=by
 have h1:=((rs.below hb rs.lt).set 0 (p':Int)).set 1 (s':Int);refine⟨h1,((rl.below hb rl.lt).other _ _ hl).other _ _ hl,?_,?_⟩
 .exact jL (jL (ho.below hb) (jN _ _ _ _) (fun x e=>by cases e;exact hs)) (jN _ _ _ _) (fun x e=>by cases e;exact hs)
 .exact((Kp.below hb).trans (Kp.set _ _ _ _ (.inr (.inl rfl)))).trans (Kp.set _ _ _ _ (.inr (.inl rfl)))
theorem Kp.mono {X Y:Nat->Prop} {A B:Ad} (h:Kp X A B) (a0:∀ j,X j->Y j):Kp Y A B:=⟨h.os,h.tape,h.output,h.size,fun j hj hn=>h.block j hj (fun hx=>hn (a0 j hx))⟩
theorem jHs {w W2 w5 w9 w3 Wf:Ad} {N G g3 Bs Bl C:Nat} {v:Aj} (a0:Ab W2 W2 w5) (b0:Ab w5 w5 w9) (K3:Kp (fun j=>j=G\/j=Bs\/j=Bl) w9 w3) (K7:Kp (fun j=>j=g3\/j=Bs\/j=Bl) (w3.setCell Bl v) Wf) (c0:g3=G\/w9.1.size<g3) (hG:G<C+2\/C+5<=G) (hs:Bs<C+2) (hl:Bl<C+2) (hC:C+5<=W2.1.size) (hb:Ab N w W2) (hN:N<=W2) (n1:N<=G) (n2:N<=Bs) (n3:N<=Bl):W2.1.size<=Wf.1.size/\(∀ j,C+2<=j->j<C+5->Wf.1[j]?=W2.1[j]?)/\Ab N w Wf:=by
 have hz:=Bx a0.size b0.size;have t:Kp (fun j=>j=G\/j=Bs\/j=Bl\/w9.1.size<j) W2 Wf:=
  ((((Kp.below a0).trans (Kp.below b0)).trans (K3.mono (fun j hj=>by omega))).trans (Kp.set w3 Bl 0 v (.inr (.inr (.inl rfl))))).trans (K7.mono (fun j hj=>by omega))
 exact⟨t.size,fun j h1 h2=>t.block j (by omega) (by omega),t.base hb hN (fun j hj=>by omega)⟩
theorem jPd {W:Ad} {Bm Bs Bl G c cp:Nat} {vs:Array Aj} {v v':Aj} {O:Nat->BA} (ho:jI W Bm G c cp O) (rs:Row W Bs 243 vs) (rl:Row W Bl 27 #[v]) (hs:Bs≠Bl) (hl:G≠Bl):jI (W.setCell Bl v') Bm G c cp O/\Row (W.setCell Bl v') Bs 243 vs/\Row (W.setCell Bl v') Bl 27 #[v']:=
 ⟨jL ho (jN _ _ _ _) (fun x e=>by cases e;exact hl),rs.other _ _ hs,rl.set 0 v'⟩
theorem jKj (a:Option Addr) (n cap:Nat) (S:Nat->ByteArray) (i:Nat) (w:World) (h:jK w a n S) (hyes:lvB n S=true) (hin:inT (i:Int) (n:Int)=true) :
  Calls Tryz.prog 226 #[.slice a n cap,.int .i64 (i:Int)] w fun e w'=>∃ v,e=.returned (.tuple #[v,.bool true])/\jCk w w' v (pl i n) (Gt.pf n S i)/\Below w.heap.size w w':=by
 have KL:Hid (Calls Tryz.prog 240 #[.slice a n cap] w fun e w'=>e=.returned (.tuple #[RwV (jAe n S) n,.bool true])/\Below w.heap.size w w'):=JV a n cap S w h hyes;obtain⟨h1,h64,h16⟩:=vE hyes;have hi:i<n:=by simp[inT] at hin;omega
 have KT:Hid (∀ w0,Calls Tryz.prog 228 #[SpV (i:Int) (n:Int)] w0 fun e w'=>e=.returned (.bool true)/\Below w0.heap.size w0 w'):=fun w0=>by have:=xN (i:Int) (n:Int) w0;rw[hin] at this;exact this
 obtain⟨L,HL⟩:=nnH (pl i n);have hL6:L<=6:=by rw[<-HL.out];exact Gt.pl_le 6 _ _ (by omega)
 obtain⟨PF,HPF⟩:=nnH (Gt.pf n S i);have HP0:Hid (∀ j,Gt.pf n (jAe n S) i j=PF j):=fun j=>by rw[<-HPF.out];exact Gt.pf_congr (fun k hk=>jBy S hk) i j
 have H16:Hid (∀ i,i<n->(jAe n S i).size=16):=fun i hi=>by rw[jBy S hi];exact h16 i hi
 rw[HL.out,HPF.out];clear h hyes h16 hin HPF;generalize jAe n S=T at *;refine(callsIn_wide (n:=2)).1 (callsIn_of_wp_marks Tryz.func226 rfl trivial (wpIn_wide.2 ?_) rfl);simp only[Tryz.ntmps226,List.size_toArray,List.length_cons,List.length_nil,Nat.reduceAdd,Nat.reduceSub,Array.replicate_succ,Array.replicate_zero,List.push_toArray,List.append_toArray,List.nil_append,List.cons_append];go_wp2_with fail
 refine KL.out.mono ?_;rintro e w1 ⟨rfl,hb1⟩;obtain⟨w2,HW2⟩:=nmH (w1.alloc (.cells (jU T n) 259));have HF:Hid ((w1.alloc (.cells (jU noT 0) 259)).setRow w1.heap.size (jU T n)=w2):=by rw[HW2.out];exact qI _ _ _ _
 obtain⟨B,hB⟩:∃ B,w1.heap.size=B:=⟨_,rfl⟩;have K2:Hid (Row w2 B 259 (jU T n)/\Below w.heap.size w w2/\w2.heap.size=B+1/\w.heap.size<=B):=by
  rw[HW2.out,<-hB];exact⟨Row.new w1 _ _,hb1.alloc hb1.size _,by simp,hb1.size⟩
 have hz2:=K2.out.2.2.1;go_wp2_with (first|(refine xT (by rfl) (by rfl) ?_)|(refine vU (by rfl) _ _ (by rfl) w1.heap.size (by rfl) T n (by rfl) noT 0 (Row.new w1 _ _) ?_;rw[HF.out])|fail)
 refine(KT.out _).mono ?_;rintro e w4 ⟨rfl,hb4⟩;obtain⟨C,hC⟩:∃ C,w4.heap.size=C:=⟨_,rfl⟩;have K4:Hid (Row w4 B 259 (jU T n)/\Row w4 (B+1) 243 #[.int .i64 (i:Int),.int .i64 (n:Int)]/\Below w.heap.size w w4/\B+1<C/\w.heap.size<=B):=by
  obtain⟨a1,a2,a3,a4⟩:=K2.out;have r1:=a1.alloc (.cells #[.int .i64 (i:Int),.int .i64 (n:Int)] 243);have r2:=Row.new w2 #[.int .i64 (i:Int),.int .i64 (n:Int)] 243;rw[a3] at r2;have r2':=r2.below hb4 r2.lt;exact⟨r1.below hb4 r1.lt,r2',jA (a2.alloc (by omega) _) hb4,by rw[<-hC];exact r2'.lt,a4⟩
 obtain⟨w8,HW8⟩:=nmH ((w4.alloc (.cells #[] 9)).alloc (.cells #[.slice (some ⟨C,0,none⟩) 0 0] 27));have HN:Hid (Row w8 B 259 (jU T n)/\Row w8 (B+1) 243 #[.int .i64 (i:Int),.int .i64 (n:Int)]/\Row w8 (C+1) 27 #[.slice (some ⟨C,0,none⟩) 0 0]/\jI w8 w.heap.size (some ⟨C,0,none⟩) 0 0 PF/\Below w.heap.size w w8/\w8.heap.size=C+2/\B+1<C/\w.heap.size<=B):=by
  rw[HW8.out];obtain⟨a1,a2,a3,a4,a5⟩:=K4.out;have l1:=jIc w4 PF;rw[hC] at l1;have l2:=Row.new (w4.alloc (.cells #[] 9)) #[.slice (some ⟨C,0,none⟩) 0 0] 27;rw[show (w4.alloc (.cells #[] 9)).heap.size=C+1 by simp[hC]] at l2;exact⟨(a1.alloc _).alloc _,(a2.alloc _).alloc _,l2,jI.base (World.ownsRow.alloc l1 _) (by omega),(a3.alloc (by omega) _).alloc (by simp;omega) _,by simp[hC],a4,a5⟩
 have K8:Hid (Row ((w4.alloc (.cells #[] 9)).alloc (.cells #[.slice (some ⟨C,0,none⟩) 0 0] 27)) B 259 (jU T n)):=by rw[<-HW8.out];exact HN.out.1
 go_wp2_with (refine jGa (by rfl) _ (by rfl) B (by rfl) T n K8.out ?_)
 rw[<-HW8.out];clear hB hC hz2 hb1 hb4 K8;refine(wpIn_wide (n:=2)).1 ?_;refine zN (recv:=RwV T n) (gf:=241) (by rfl) (enters_of Tryz.func241 (by kernel_rfl) rfl) (jDp T n h1 h64 H16.out) (fun _=>rfl)
  (fun s W=>Below w.heap.size w W/\∃ (p z c G cp:Nat) (O:Nat->ByteArray),Row W (B+1) 243 #[.int .i64 (p:Int),.int .i64 (z:Int)]/\Row W (C+1) 27 #[.slice (some ⟨G,0,none⟩) c cp]/\jI W w.heap.size (some ⟨G,0,none⟩) c cp O/\(G≠B+1/\G≠C+1/\(G<C+2\/C+5<=G))/\(∀ j,j<c->O j=PF j)/\c<=L/\(s.1=false->z=s.2.1/\p<s.2.1/\c+pl p s.2.1=L/\∀ j,Gt.pf s.2.1 s.2.2 p j=PF (c+j))/\(s.1=true->c=L)) ?abide ?start ?round ?done
 case abide=>
  rintro s A A' j h1 h2 ⟨hb,p,z,c,G,cp,O,r1,r2,ho,hG,hO,hc,hf,ht⟩ hg;have hn:=HN.out.2.2.2.2.2;exact⟨qE hb hg hb.size (by omega),p,z,c,G,cp,O,r1.grown hg (by omega),r2.grown hg (by omega),jL ho hg (fun x e=>by cases e;simp;omega),hG,hO,hc,hf,ht⟩
 case start=>
  obtain⟨a1,a2,a3,a4,a5,a6,a7,a8⟩:=HN.out;exact⟨a5,i,n,0,C,0,PF,a2,a3,a4,⟨by omega,by omega,by omega⟩,fun _ _=>rfl,by omega,fun _=>⟨rfl,hi,by have:=HL.out;simp;omega,fun j=>by rw[Nat.zero_add];exact HP0.out j⟩,fun e=>by cases e⟩
 case round=>
  rintro l ⟨d,m,T'⟩ W hok ⟨hb,p,z,c,G,cp,O,r1,r2,ho,hG,hO,hc,hf',ht⟩ hlt;have hn:=HN.out.2.2.2.2.2;have hd:d=false:=hok.1;obtain⟨hz,hp,hcl,hpf⟩:=hf' hd;subst hd;have hm1:1<=m:=hok.2.1;have hm64:m<=64:=hok.2.2.1;have HM16:Hid (∀ i,i<m->(T' i).size=16):=hok.2.2.2;have hzm:z=m:=hz;subst hzm;have hpm:p<z:=hp;have HC0:Hid (c+pl p z=L):=hcl;have HP:Hid (∀ j,Gt.pf z T' p j=PF (c+j)):=hpf;have HO:Hid (∀ j,j<c->O j=PF j):=hO;clear hf' ht hz hp hcl hpf hO hok;have hsem:=Oper.semAt_some;have hfn:=jEa;have hdp:=JB;have hmx:=Tryz.mixed;have HF2:Hid ((W.alloc (.cells (jU noT 0) 259)).setRow W.heap.size (jU T' z)=W.alloc (.cells (jU T' z) 259)):=qI _ _ _ _;go_simp
  gi_wp2_with (first|(refine jJd (by rfl) (by rfl) ?_)|(refine jEm (by rfl) _ _ (by rfl) W.heap.size (by rfl) T' z (by rfl) noT 0 (Row.new W _ _) ?_;rw[HF2.out]))
  refine⟨World.grownBy_alloc _ _ _,?_⟩;intro W2 hg2 hs2;obtain⟨X,hX⟩:∃ X,W.heap.size=X:=⟨_,rfl⟩;have hXC:C+4<X:=by omega
  have K5:Hid (Row W2 (B+1) 243 #[.int .i64 (p:Int),.int .i64 (z:Int)]/\Row W2 (C+1) 27 #[.slice (some ⟨G,0,none⟩) c cp]/\jI W2 w.heap.size (some ⟨G,0,none⟩) c cp O/\Row W2 X 259 (jU T' z)/\Below w.heap.size w W2/\W2.heap.size=X+1):=by
   have rx:=(Row.new W (jU T' z) 259).grown hg2 (by omega);rw[hX] at rx;exact⟨(r1.alloc _).grown hg2 (by omega),(r2.alloc _).grown hg2 (by omega),jL (World.ownsRow.alloc ho _) hg2 (fun x e=>by cases e;simp;omega),rx,qE (hb.alloc hb.size _) hg2 (by simp;have:=hb.size;omega) (by omega),by rw[hs2];simp[hX]⟩
  have HG:Hid (G≠B+1/\G≠C+1/\(G<C+2\/C+5<=G)/\w.heap.size<=G):=⟨hG.1,hG.2.1,hG.2.2,(World.ownsRow.lt ho _ rfl).1⟩;have Hn:Hid (w8.heap.size=C+2/\B+1<C/\w.heap.size<=B):=hn;obtain⟨p',hp'⟩:∃ p',p / 2=p':=⟨_,rfl⟩;obtain⟨z',hz'⟩:∃ z',hf z=z':=⟨_,rfl⟩;have KA:Hid (∀ w0,Calls Tryz.prog 229 #[SpV (p:Int) (z:Int)] w0 fun e w'=>e=.returned (SpV (p':Int) (z':Int))/\Below w0.heap.size w0 w'):=fun w0=>by rw[<-hp',<-hz'];exact QX p z w0 (by omega) (by omega)
  have c0:=K5.out.1.cell 0;have c1:=K5.out.1.cell 1;simp at c0 c1;clear hg2 hs2 hb ho r1 r2 hG hn HF2;by_cases hnb:nb p<z
  .have KN:Hid (∀ w0,Calls Tryz.prog 230 #[SpV (p:Int) (z:Int)] w0 fun e w'=>e=.returned (.tuple #[.int .i64 ((nb p:Nat):Int),.bool true])/\Below w0.heap.size w0 w'):=fun w0=>by
    have:=vZ p z w0 (by omega)
    rw[show decide (nb p<z)=true by simpa using hnb] at this;exact this
   have hz1:¬ z<=1:=by intro e;unfold nb at hnb;split at hnb <;> omega
   have HE:Hid (c+1<=L/\((rNx (false,z,T')).1=false->z'=(rNx (false,z,T')).2.1/\p'<(rNx (false,z,T')).2.1/\c+1+pl p' (rNx (false,z,T')).2.1=L/\∀ j,Gt.pf (rNx (false,z,T')).2.1 (rNx (false,z,T')).2.2 p' j=PF (c+1+j))/\((rNx (false,z,T')).1=true->c+1=L)):=by
    have hcl:=HC0.out;rw[Gt.pl_yes p hz1 hnb,hp',hz'] at hcl;show _/\_;unfold rNx;rw[if_neg hz1];refine⟨by omega,fun _=>⟨hz'.symm,?_,?_,fun j=>?_⟩,fun e=>(by cases e)⟩
    .show p'<hf z;rw[<-hp'];unfold hf;omega
    .show c+1+pl p' (hf z)=L;rw[hz'];omega
    .show Gt.pf (hf z) (up z T') p' j=_;rw[<-hp',<-Gt.pf_tl T' p j hz1 hnb,HP.out,show c+(j+1)=c+1+j by omega]
   have HQ:Hid (T' (nb p)=PF c):=by
    have:=HP.out 0
    rw[Gt.pf_hd T' p hz1 hnb] at this;exact this
   obtain⟨q,hq⟩:∃ q,nb p=q:=⟨_,rfl⟩;rw[hq] at KN HQ hnb;obtain⟨x,hx⟩:∃ x,T' q=x:=⟨_,rfl⟩;have hx16:=HM16.out q hnb;rw[hx] at HQ hx16;have KC:Hid (∀ w0,Calls Tryz.prog 120 #[.string x] w0 fun e w'=>e=.returned (.string x)/\Below w0.heap.size w0 w'):=fun w0=>qN x w0 (by omega)
   have hc6:c<=64:=by omega
   have hq64:(q:Int)<64:=by omega
   clear hx16 hp' hz' HC0 HP;gi_wp2_with fail
   refine(CallsIn.inRound l (callsIn_wide.2 (KN.out _))).mono ?_;rintro e w5 ⟨rfl,hb5⟩;have K6:Hid (Row w5 (B+1) 243 #[.int .i64 (p:Int),.int .i64 (z:Int)]/\Row w5 (C+1) 27 #[.slice (some ⟨G,0,none⟩) c cp]/\jI w5 w.heap.size (some ⟨G,0,none⟩) c cp O/\Row w5 X 259 (jU T' z)):=by
    obtain⟨a1,a2,a3,a4,a5,a6⟩:=K5.out;exact⟨a1.below hb5 a1.lt,a2.below hb5 a2.lt,a3.below hb5,a4.below hb5 a4.lt⟩
   have k1:=K6.out.2.1.cell 0;have k2:w5.cell? ⟨X,q,none⟩=some (.string x):=by rw[K6.out.2.2.2.cell q,vO _ _ _ (by omega),hx]
   simp at k1;clear c0 c1 hx;gi_wp2_with fail
   refine jQi (by assumption) 9 [([],[0,7,8]),([],[6,7,8]),([],[6,7,8]),([1,2],[6,7,8]),([3],[4,6,7,8]),([4],[5,6,7,8]),([5],[6,7,8]),([0,6],[7,8]),([6,7],[8])] (by kernel_rfl) (fun L A9 W=>∃ (w9:World) (g3:Nat) (c3:Nat),A9=⟨(List.toArray (α:=Value) ((.slice a n cap)::(.int .i64 (i:Int))::undef::undef::(.slice none 0 0)::(.bool false)::(.pointer (some ⟨B,0,none⟩))::(.bool true)::(.pointer (some ⟨B+1,0,none⟩))::(.pointer (some ⟨C+1,0,none⟩))::(.pointer (some ⟨X,0,none⟩))::(.int .i64 (q:Int))::(.bool true)::(.tuple #[RwV T n,.bool true])::(.slice a n cap)::(.tuple #[RwV T n,.bool true])::(RwV T n)::(.bool true)::(.int .i64 (i:Int))::(.slice a n cap)::(.int .i64 (n:Int))::(.agg #[.int .i64 (i:Int),.int .i64 (n:Int)])::(.bool true)::(.bool false)::(.bool false)::(.agg #[.int .i64 (i:Int),.int .i64 (n:Int)])::(.bool true)::(.bool false)::(.bool false)::undef::(.slice (some ⟨C,0,none⟩) 0 0)::(RwV T n)::(Value.func (Fn.func 241) #[RwV T n] #[])::(RwV T' z)::(.tuple #[.int .i64 (q:Int),.bool true])::(.agg #[.int .i64 (p:Int),.int .i64 (z:Int)])::(.tuple #[.int .i64 (q:Int),.bool true])::(.int .i64 (q:Int))::(.bool true)::(.bool true)::(cX (L 0) (.slice (some ⟨G,0,none⟩) c cp) undef)::(cX (L 1) (.int .i64 (q:Int)) undef)::(cX (L 2) (.pointer (some ⟨X,0,none⟩)) undef)::(cX (L 3) (.pointer (some ⟨X,q,none⟩)) undef)::(cX (L 4) (.string x) undef)::(cX (L 5) (.string x) undef)::(cX (L 6) (.slice (some ⟨w9.heap.size,0,none⟩) 1 1) undef)::(cX (L 7) (.slice (some ⟨g3,0,none⟩) (c+1) c3) undef)::undef::undef::undef::[])),[]⟩/\(L 6=false->Below w5.heap.size w5 W)/\(L 6=true->Below w5.heap.size w5 w9)/\(L 6=true->L 7=false->W=w9.alloc (.cells #[.string x] 9))/\(L 7=true->L 8=false->jI W w.heap.size (some ⟨g3,0,none⟩) (c+1) c3 (fun j=>if j=c then x else O j)/\Row W (B+1) 243 #[.int .i64 (p:Int),.int .i64 (z:Int)]/\Row W (C+1) 27 #[.slice (some ⟨G,0,none⟩) c cp]/\(g3=G\/w9.heap.size<g3)/\Kp (fun j=>j=G\/j=B+1\/j=C+1) w9 W)/\(L 8=true->∃ w3,W=w3.setCell ⟨C+1,0,none⟩ (.slice (some ⟨g3,0,none⟩) (c+1) c3)/\jI w3 w.heap.size (some ⟨g3,0,none⟩) (c+1) c3 (fun j=>if j=c then x else O j)/\Row w3 (B+1) 243 #[.int .i64 (p:Int),.int .i64 (z:Int)]/\Row w3 (C+1) 27 #[.slice (some ⟨G,0,none⟩) c cp]/\(g3=G\/w9.heap.size<g3)/\Kp (fun j=>j=G\/j=B+1\/j=C+1) w9 w3)) ?_ ?_ ?_
   .exact⟨w5,0,0,rfl,(fun _=>jD _),(fun h=>by cases h),(fun h=>by cases h),(fun h=>by cases h),(fun h=>by cases h)⟩
   .rintro a9 wx ⟨w9,g3,c3,ha9,-,hf1,-,-,hf4⟩;simp only[Nat.reduceLT,decide_true,jJ] at ha9;subst ha9;replace hf1:=(hf1 rfl)
    replace hf4:=(hf4 rfl)
    obtain⟨w3,rfl,h3⟩:=hf4;have H3:Hid (jI w3 w.heap.size (some ⟨g3,0,none⟩) (c+1) c3 (fun j=>if j=c then x else O j)/\Row w3 (B+1) 243 #[.int .i64 (p:Int),.int .i64 (z:Int)]/\Row w3 (C+1) 27 #[.slice (some ⟨G,0,none⟩) c cp]/\(g3=G\/w9.heap.size<g3)/\Kp (fun j=>j=G\/j=B+1\/j=C+1) w9 w3):=h3;have hb9:Below w5.heap.size w5 w9:=hf1;clear h3 hf1 k1 k2;have hw9:C+1<w9.heap.size:=Nat.lt_of_lt_of_le K6.out.2.1.lt hb9.size;have hg3:=H3.out.2.2.2.1;have hgC:g3≠C+1:=by have:=HG.out;omega
    have hgB:g3≠B+1:=by have:=HG.out;have:=Hn.out;omega
    have H6:Hid _:=jPd (v':=.slice (some ⟨g3,0,none⟩) (c+1) c3) H3.out.1 H3.out.2.1 H3.out.2.2.1 (by have:=Hn.out;omega) hgC;have t0:=H6.out.2.1.cell 0;have t1:=H6.out.2.1.cell 1;simp at t0 t1;gi_wp2_with fail
    refine(CallsIn.inRound l (callsIn_wide.2 (KA.out _))).mono ?_;rintro e w7 ⟨rfl,hb7⟩;have HFin:=jFx p' z' H6.out.1 H6.out.2.1 H6.out.2.2 hb7 hgB (by have:=Hn.out;omega);have HK:=jHs (N:=w.heap.size) (C:=C) hb5 hb9 H3.out.2.2.2.2 HFin.out.2.2.2 hg3 HG.out.2.2.1 (by have:=Hn.out;omega) (by omega) (by have:=K5.out.2.2.2.2.2;omega) K5.out.2.2.2.2.1 (by have:=K5.out.2.2.2.2.2;have:=Hn.out;omega) HG.out.2.2.2 (by have:=Hn.out;omega) (by have:=Hn.out;omega);have HKK:Hid _:=HK;have u0:=(H6.out.2.1.below hb7 H6.out.2.1.lt).cell 0;have u1:=(H6.out.2.1.below hb7 H6.out.2.1.lt).cell 1;have v0:=(H6.out.2.1.below hb7 H6.out.2.1.lt).free 0;have v1:=(H6.out.2.1.below hb7 H6.out.2.1.lt).free 1;simp at u0 u1;clear HK t0 t1;gi_wp2
    exact⟨HKK.out.1,fun j h1 h2=>HKK.out.2.1 j (by have:=Hn.out;omega) (by have:=Hn.out;omega),HKK.out.2.2,p',z',HFin.out.1,c+1,g3,c3,HFin.out.2.1,_,HFin.out.2.2.1,⟨hgB,hgC,by have:=HG.out;have:=Hn.out;have:=K5.out.2.2.2.2.2;have:=hb5.size;have:=hb9.size;omega⟩,fun j hj=>(by by_cases e:j=c <;> simp only[e,if_true,if_false] <;> first|exact HQ.out|exact HO.out j (by omega)),HE.out.1,HE.out.2.1,HE.out.2.2⟩
   .intro q9 hq9 L a9 W S hI9;match q9,hq9 with
    | 1,_|2,_|3,_=>
     obtain⟨w9,g3,c3,rfl,hf⟩:=hI9;simp only[knT,kn,knN] at S;refine qT rfl (fun _=>rfl) fun K hK=>?_
     try simp only[S,jJ]
     go_simp
     exact hK _ _ ⟨w9,g3,c3,(by simp only[Nat.reduceBEq,Bool.false_or,Bool.true_or,jJ,S]),hf⟩
    | 0,_=>
     obtain⟨w9,g3,c3,rfl,h0,h1,h2,h3,h4⟩:=hI9;obtain⟨e0,e7,e8,-⟩:=S;have m1:W.cell? ⟨C+1,0,none⟩=some (.slice (some ⟨G,0,none⟩) c cp):=by
      cases h9:L 6 with
      | false=>exact(K6.out.2.1.below (h0 h9) K6.out.2.1.lt).cell 0
      | true=>rw[h2 h9 e7];exact((K6.out.2.1.below (h1 h9) K6.out.2.1.lt).alloc _).cell 0
     refine qT rfl (fun _=>rfl) fun K hK=>?_
     go_simp
     exact hK _ _ ⟨w9,g3,c3,(by simp only[Nat.reduceBEq,Bool.false_or,Bool.true_or,jJ,e7]),h0,h1,h2,(ab e7),(ab e8)⟩
    | 4,_=>
     obtain⟨w9,g3,c3,rfl,h0,h1,h2,h3,h4⟩:=hI9;obtain⟨d3,e4,e6,e7,e8,-⟩:=S;have m2:W.cell? ⟨X,q,none⟩=some (.string x):=by
      exact((K6.out.2.2.2.below (h0 e6) K6.out.2.2.2.lt).cell q).trans ((K6.out.2.2.2.cell q).symm.trans k2)
     refine qT rfl (fun _=>rfl) fun K hK=>?_
     simp only[d3,jJ];go_simp
     exact hK _ _ ⟨w9,g3,c3,(by simp only[Nat.reduceBEq,Bool.false_or,Bool.true_or,jJ,d3,e6,e7]),h0,(ab e6),(ab e6),(ab e7),(ab e8)⟩
    | 5,_=>
     obtain⟨w9,g3,c3,rfl,h0,h1,h2,h3,h4⟩:=hI9;obtain⟨d4,e5,e6,e7,e8,-⟩:=S;refine qT rfl (fun _=>rfl) fun K hK=>?_
     simp only[d4,jJ];go_simp
     gi_at_call 120
     refine(CallsIn.inRound l (callsIn_wide.2 (KC.out _))).mono ?_;rintro e w8 ⟨rfl,b8⟩;exact hK _ _ ⟨w9,g3,c3,(by simp only[Nat.reduceBEq,Bool.false_or,Bool.true_or,jJ,d4,e6,e7]),(fun k0=>jA (h0 e6) b8),(ab e6),(ab e6),(ab e7),(ab e8)⟩
    | 6,_=>
     obtain⟨w9,g3,c3,rfl,h0,h1,h2,h3,h4⟩:=hI9;obtain⟨d5,e6,e7,e8,-⟩:=S;refine qT rfl (fun _=>rfl) fun K hK=>?_
     simp only[d5,jJ];go_simp
     exact hK _ _ ⟨W,g3,c3,(by simp only[Nat.reduceBEq,Bool.false_or,Bool.true_or,jJ,d5,e7]),nf,(fun k0=>h0 e6),(fun k0 k1=>rfl),(ab e7),(ab e8)⟩
    | 7,_=>
     obtain⟨w9,g3,c3,rfl,h0,h1,h2,h3,h4⟩:=hI9;obtain⟨d0,d6,e7,e8,-⟩:=S;have b9:=h1 d6;obtain⟨g3,c3,w3,hrun,H3⟩:=jO1 x (K6.out.2.2.1.below b9) (K6.out.1.below b9 K6.out.1.lt) (K6.out.2.1.below b9 K6.out.2.1.lt) HG.out.1 HG.out.2.1 hc6;obtain rfl:=h2 d6 e7;refine qT rfl (fun _=>rfl) fun K hK=>?_
     simp only[d0,d6,jJ];refine jEw _ _ 27 (by rfl) 27 (by rfl) (.slice (some ⟨G,0,none⟩) c cp) (.slice (some ⟨w9.heap.size,0,none⟩) 1 1) (by rfl) (by rfl) _ _ hrun ?_;exact hK _ _ ⟨w9,g3,c3,(by simp[Act.put,jJ,d0,d6]),(ba d6),h1,(fun _=>nf),(fun k0 k1=>H3.out),(ab e8)⟩
    | 8,_=>
     obtain⟨w9,g3,c3,rfl,h0,h1,h2,h3,h4⟩:=hI9;obtain⟨d6,d7,e8,-⟩:=S;have q3:=h3 d7 e8;have m3:=q3.2.2.1.cell 0;have f3:=q3.2.2.1.free 0;simp at m3;refine qT rfl (fun _=>rfl) fun K hK=>?_
     simp only[d7,jJ];go_simp
     exact hK _ _ ⟨w9,g3,c3,(by simp only[Nat.reduceBEq,Bool.false_or,d6,d7,jJ]),(ba d6),h1,(fun _=>ba d7),(fun _=>nf),(fun k0=>⟨_,rfl,q3⟩)⟩
    | n9+9,h=>exact absurd h (by omega)
  .have KN:Hid (∀ w0,Calls Tryz.prog 230 #[SpV (p:Int) (z:Int)] w0 fun e w'=>e=.returned (.tuple #[.int .i64 ((nb p:Nat):Int),.bool false])/\Below w0.heap.size w0 w'):=fun w0=>by
    have:=vZ p z w0 (by omega)
    rw[show decide (nb p<z)=false by simpa using hnb] at this;exact this
   have HE:Hid (((rNx (false,z,T')).1=false->z'=(rNx (false,z,T')).2.1/\p'<(rNx (false,z,T')).2.1/\c+pl p' (rNx (false,z,T')).2.1=L/\∀ j,Gt.pf (rNx (false,z,T')).2.1 (rNx (false,z,T')).2.2 p' j=PF (c+j))/\((rNx (false,z,T')).1=true->c=L)):=by
    have hcl:=HC0.out;show _/\_;unfold rNx;by_cases hz1:z<=1
    .rw[if_pos hz1];rw[Gt.pl_one p hz1] at hcl;exact⟨fun e=>(by cases e),fun _=>by omega⟩
    .rw[if_neg hz1];rw[Gt.pl_no p hz1 hnb,hp',hz'] at hcl;refine⟨fun _=>⟨hz'.symm,?_,?_,fun j=>?_⟩,fun e=>(by cases e)⟩
     .show p'<hf z;rw[<-hp'];unfold hf;omega
     .show c+pl p' (hf z)=L;rw[hz'];omega
     .show Gt.pf (hf z) (up z T') p' j=_;rw[<-hp',<-Gt.pf_no T' p j hz1 hnb,HP.out]
   generalize nb p=q at KN;clear hp' hz' HC0 HP hnb;gi_wp2_with fail
   refine(CallsIn.inRound l (callsIn_wide.2 (KN.out _))).mono ?_;rintro e w5 ⟨rfl,hb5⟩;have K6:Hid (jI w5 w.heap.size (some ⟨G,0,none⟩) c cp O/\Row w5 (B+1) 243 #[.int .i64 (p:Int),.int .i64 (z:Int)]/\Row w5 (C+1) 27 #[.slice (some ⟨G,0,none⟩) c cp]):=by
    obtain⟨a1,a2,a3,a4,a5,a6⟩:=K5.out;exact⟨a3.below hb5,a1.below hb5 a1.lt,a2.below hb5 a2.lt⟩
   have t0:=K6.out.2.1.cell 0;have t1:=K6.out.2.1.cell 1;simp at t0 t1;clear c0 c1;gi_wp2_with fail
   refine(CallsIn.inRound l (callsIn_wide.2 (KA.out _))).mono ?_;rintro e w7 ⟨rfl,hb7⟩;have HFin:=jFx p' z' K6.out.1 K6.out.2.1 K6.out.2.2 hb7 HG.out.1 (by have:=Hn.out;omega);have HKK:Hid (Kp (fun j=>j=G\/j=B+1\/j=C+1) W2 ((w7.setCell ⟨B+1,0,none⟩ (.int .i64 (p':Int))).setCell ⟨B+1,1,none⟩ (.int .i64 (z':Int)))):=(Kp.below hb5).trans HFin.out.2.2.2;have u0:=(K6.out.2.1.below hb7 K6.out.2.1.lt).cell 0;have u1:=(K6.out.2.1.below hb7 K6.out.2.1.lt).cell 1;have v0:=(K6.out.2.1.below hb7 K6.out.2.1.lt).free 0;have v1:=(K6.out.2.1.below hb7 K6.out.2.1.lt).free 1;simp at u0 u1;clear t0 t1;gi_wp2
   exact⟨HKK.out.size,fun j h1 h2=>HKK.out.block j (by have:=K5.out.2.2.2.2.2;have:=Hn.out;omega) (by have:=Hn.out;have:=HG.out;omega),HKK.out.base K5.out.2.2.2.2.1 (by have:=K5.out.2.2.2.2.2;have:=Hn.out;omega) (fun j hj=>by have:=Hn.out;have:=HG.out;omega),p',z',HFin.out.1,c,G,cp,HFin.out.2.1,O,HFin.out.2.2.1,⟨HG.out.1,HG.out.2.1,HG.out.2.2.1⟩,HO.out,by omega,HE.out.1,HE.out.2⟩
 case done=>
  rintro s W hf ⟨hb,p,z,c,G,cp,O,r1,r2,ho,hG,hO,hc,_,ht⟩ hK;have hcL:c=L:=ht hf;subst hcL;have e0:=r2.cell 0;simp at e0;have HR:Hid (jI W w.heap.size (some ⟨G,0,none⟩) c cp PF):=ho.congr hO;clear ho;go_wp2
  refine⟨by simp,.inl ⟨_,_,rfl,run_takeDeferred hK,?_⟩⟩;refine⟨_,results_tmp2 rfl _ _ _,_,rfl,⟨_,_,rfl,?_⟩,qE hb (qQ _ _ _) hb.size (by have:=HN.out;omega)⟩;exact jL HR.out (qQ _ _ _) (fun x e=>by cases e;have:=HN.out.2.2.2.2.2;simp;omega)
end Go.Proofs.YtcaejlalnjnifaaGreat
namespace Go.Proofs.YtcaejlalnjnifaaGreat
open Gt (hf up nb pl)
theorem jAf {n:Nat} {S:Nat->BA} {i:Int} (h:pfB n S i=Aw):lvB n S=Aw/\inT i (n:Int)=Aw:=by
 unfold pfB at h;rwa [Cr] at h
theorem jOe (n:Nat) (S:Nat->BA) (i:Int):pfR n S i<=16:=by
 unfold pfR;by_cases h:pfB n S i=Aw
 .rw[A6 h];have a0:=(vE (jAf h).1).2.1;have:=Gt.pl_le 6 i.toNat n (by omega)
  omega
 .rw[A5 h];omega
theorem jKi (a:OA) (n cap:Nat) (S:Nat->BA) (i:Int) (w:Ad) (h:jK w a n S) (hn:n<=1048576) (hL:∀ i,i<n->(S i).size<=Au):Ak prog 226 #[V a n cap,Ao Ar i] w fun e w'=>∃ v,e=Ae (Ah #[v,(pfB n S i)])/\jCk w w' v (pfR n S i) (pfF n S i)/\Ab w w w':=by
 unfold pfR;cases hB:pfB n S i with
 | false=>exact jMr a n cap S i w h hn hL hB
 | true=>
  obtain⟨h1,h2⟩:=jAf hB;obtain⟨i',rfl⟩:∃ i':Nat,i=(i':Int):=⟨i.toNat,by simp[inT] at h2;omega⟩;exact jKj a n cap S i' w h h1 h2
theorem jHz (a:OA) (n cap:Nat) (S:Nat->BA) (i:Int) (w:Ad) (h:jK w a n S) (hn:n<=1048576) (hL:∀ i,i<n->(S i).size<=Au):Ak prog 165 #[V a n cap,Ao Ar i] w fun e w'=>∃ v,e=Ae (Ah #[v,(pfB n S i)])/\jCk w w' v (pfR n S i) (pfF n S i)/\Ab w w w':=by
 have k0:Ab w w (w.alloc (J #[] 9)):=(Az _ _).alloc (Ay _) _;have KV:H (Ak prog 189 #[V a n cap] (w.alloc (J #[] 9)) fun e w'=>e=Ae (lvB n S)/\w'=w.alloc (J #[] 9)):=JZ a n cap S _ (h.below k0) hn hL;obtain⟨PF,u0⟩:=nnH (pfF n S i);have j0:H (jI (w.alloc (J #[] 9)) w (Q w 0 I) 0 0 PF):=jIc w _;have g0:H (Ab w w (w.alloc (J #[] 9))):=k0;rw[u0.out];unfold pfR;cases hV:lvB n S with
 | false=>
  rw[hV] at KV;have hB:pfB n S i=Av:=by unfold pfB;rw[hV];rfl
  rw[hB];clear h hL hB hV k0;go_enter func165,ntmps165
  go_wp2_with (go_at_call 189;refine KV.mono ?_;rintro e w' ⟨rfl,hw⟩;obtain rfl:=hw.symm)
  go_ret2
  exact⟨_,rfl,⟨_,_,rfl,j0⟩,g0⟩
 | true=>
  rw[hV] at KV;obtain⟨h1,h64,w0⟩:=vE hV;have n1:IntKind.i64.wrap ((n:Int)-1)=(n:Int)-1:=by rw[A8];omega
  by_cases hin:0<=i/\i<=(n:Int)-1
  .have KI:inB i 0 ((n:Int)-1)=Aw:=QK hin;obtain⟨i',rfl⟩:∃ i':Nat,i=(i':Int):=⟨i.toNat,by omega⟩;have hB:pfB n S (i':Int)=Aw:=by unfold pfB;rw[hV];simp[inT];omega
   rw[hB,A6 rfl];simp only[Cz];obtain⟨L,HL⟩:=nnH (pl i' n);have r1:L<=6:=by rw[<-HL.out];exact Gt.pl_le 6 _ _ (by omega)
   rw[HL.out];have HP0:H (∀ j,Gt.pf n S i' j=PF j):=fun j=>by rw[<-u0.out];rfl
   obtain⟨i0,hi,z0,a1,b1⟩:=Ch Tryz.infoStr;obtain⟨b,off,rfl,r0⟩:=h.some (by omega);have o1:b<w:=A7 (r0 0 (by omega));obtain⟨w1,q0⟩:=nmH (w.alloc (J #[] 9));rw[<-q0.out] at KV j0 g0;have s0:H (w1.1.size=w.1.size+1):=by show _=_;rw[q0.out];simp
   have HN:H (∀ j u,(sL S n)[j]?=M u->(w1.alloc (J #[] 9)).cell? (((Q b off I):Al).add j)=M u):=jKu (fun i hi=>by
    have hb:Ab w w (w1.alloc (J #[] 9)):=g0.alloc (by have:=s0.out;omega) _;exact(hb.cell (p:=Q b (off+i) I) o1).trans (r0 i hi))
   have KL:H (jI (w1.alloc (J #[] 9)) w1 (Q w1 0 I) 0 0 S):=jIc w1 _;have H1:H (∀ u∈sL S n,u.oneCell'=Aw):=jOh S n;have H16:H (∀ i,i<n->(S i).size=16):=w0;clear h hL hB hV k0 r0 w0;go_enter func165,ntmps165
   go_wp2_with fail
   rw[<-q0.out];go_wp2_with (first|(go_at_call 189;refine KV.out.mono ?_;rintro e w' ⟨rfl,hw⟩;obtain rfl:=hw.symm)|(go_at_call 43;refine(jM _ _ _ _).mono ?_;rintro e w' ⟨rfl,hw⟩;obtain rfl:=hw.symm)|(at_builtin;refine Dc _ rfl _ _ 27 rfl w1 9 i0 Ap 1 16 C3 hi z0 a1 b1 rfl (by decide) (V (M ⟨w1.1.size,0,I⟩) 0 0) 0 _ rfl KL.out ⟨b,off,I⟩ n cap (sL S n) rfl (by rw[qW];omega) HN.out H1.out (by omega) (by unfold Au;omega) (by omega) (by simp) (w1.1.size+1) (by simp) ?_;intro g3 cap3 w3 hown3 hgrow3 hat3 hlt3))
   have HS0:H (jI w3 w g3 n cap3 S/\jI w3 w (Q w 0 I) 0 0 PF/\Ab w w w3/\g3≠w.1.size):=by
    have hz:=s0.out;have h0:World.grownBy (w1.alloc (J #[] 9)) w3 (M w1.1.size):=hgrow3;have hx:sL S 0++sL S n=sL S n:=rfl;rw[hx,Bq] at hown3;refine⟨jI.base hown3 (by omega),jL (Cb j0.out _) h0 (fun x e=>by cases e;simp;omega),(g0.out.alloc (by omega) _).grown h0 (by simp;omega) (fun j hj=>by cases hj;omega),?_⟩;rcases hat3 with e|e
    .have e':M w1.1.size=M g3:=e;cases e';omega
    .omega
   clear hown3 hgrow3 hat3 hlt3 KL HN H1 KV j0 g0 s0;try simp only[Bq]
   go_loopg [1,6,7] n (fun gk vi vo vr wr=>∃ (m G c p Go k co:Nat) (R O:Nat->BA),m=gk/\p<m/\m<=64/\vi=Ao Ar (p:Int)/\vo=V Go k co/\vr=V G m c/\jI wr w G m c R/\jI wr w Go k co O/\G≠Go/\k<=L/\H (∀ j,j<k->O j=PF j)/\H (k+pl p m=L)/\H (∀ j,Gt.pf m R p j=PF (k+j))/\H (∀ i,i<m->(R i).size=16)/\Ab w w wr)
   case atStart=>exact⟨n,g3,cap3,i',w.1.size,0,0,S,PF,rfl,by omega,h64,rfl,rfl,rfl,HS0.out.1,HS0.out.2.1,HS0.2.2.2,by omega,fun j hj=>by omega,by show 0+_=_;rw[Bq];exact HL,fun j=>by rw[Bq];exact HP0 j,H16,HS0.2.2.1⟩
   case round=>
    obtain⟨m,G,c,p,Go,k,co,R,O,rfl,hp,o0,rfl,rfl,rfl,d0,a0,j1,hkL,HO,HC,HP,HS,e0⟩:=hrel;clear HS0 H16 HL HP0 hin n1;have t0:=e0.size;by_cases e1:m<=1
    .have i1:¬ (1:Int)<(m:Int):=by omega
     have HE:H (jI wr w Go L co PF):=by
      have:=HC.out
      rw[Gt.pl_one p e1] at this;have m1:k=L:=by omega
      rw[<-m1];exact a0.congr HO
     have Hk:H (k=L):=by
      have:=HC.out
      rw[Gt.pl_one p e1] at this;show _=_;omega
     clear d0 a0;go_wp2
     go_ret2
     exact⟨_,rfl,⟨_,_,by rw[<-Hk.out];rfl,HE⟩,e0⟩
    .have i1:(1:Int)<(m:Int):=by omega
     obtain⟨u1,u2,u3,u4,u5,u6,u7,u8,u9⟩:=jFj p m hp o0;have hlt:p / 2<hf m/\hf m<m:=by unfold hf;omega
     have HS2:H (∀ i,i<hf m->(up m R i).size=16):=Gt.up_size HS;have HU:H (∀ W,jK W G m R->Ak prog 190 #[V G m c] W fun e w'=>∃ g c,e=Ae (V (Q g 0 I) (hf m) c)/\jI w' W.1.size (Q g 0 I) (hf m) c (up m R)/\Ab W.1.size W w'):=fun W hW=>jK0 _ m c R W hW o0 HS
     by_cases hnb:nb p<m
     .have m0:((nb p:Nat):Int)<(m:Int):=by omega
      have HC2:H (k+1+pl (p / 2) (hf m)=L):=by have:=HC.out;rw[Gt.pl_yes p e1 hnb] at this;show _=_;omega
      have HP2:H (∀ j,Gt.pf (hf m) (up m R) (p / 2) j=PF (k+1+j)):=fun j=>by rw[<-Gt.pf_tl R p j e1 hnb,HP.out,show k+(j+1)=k+1+j by omega]
      have HQ:H (R (nb p)=PF k):=by have:=HP 0;rw[Gt.pf_hd R p e1 hnb] at this;exact this
      have hck:k+1<=L:=by have:=HC2.out;omega
      obtain⟨b',q1,eq,y0⟩:=(jI.at d0).some (by omega);cases eq;have cq:=y0 (nb p) hnb;simp only[Bq] at cq;generalize R (nb p)=x at cq HQ;generalize nb p=q at u4 m0 cq;generalize p / 2=p' at u5 u6 hlt HC2 HP2;generalize hf m=m' at u8 u9 hlt HC2 HP2 HS2 HU;generalize up m R=R' at HP2 HS2 HU;have KR:H (jI wr w G m c R):=d0;have KO:H (jI wr w Go k co O):=a0;have c1:=A0 a0 _ rfl;have lG:=A0 d0 _ rfl;clear d0 a0 y0 hnb HC HP HS;go_wp2_with (at_builtin;refine Dc _ rfl _ _ 27 rfl w 9 i0 Ap 1 16 C3 hi z0 a1 b1 rfl (by decide) (V Go k co) k _ rfl (Cb KO.out _) ⟨wr.1.size,0,I⟩ 1 1 [Ag x] rfl rfl (Cf (cs:=#[Ag x]) (t:=9) (fr:=(0,0)) (Co wr _)) (by simp[Aq]) (by omega) (by unfold Au;omega) (by omega) (by simp;omega) (wr.1.size+1) (by simp) ?_;intro g4 cap4 w4 n0 f0 x0 p1)
      have h0:World.grownBy (wr.alloc (J #[Ag x] 9)) w4 (M Go):=f0;have g1:H (jI w4 w G m c R):=jL (Cb KR _) h0 (fun y e=>by cases e;exact j1);have v0:H (Ab w w w4):=(e0.alloc t0 _).grown h0 (by simp;omega) (fun j hj=>by cases hj;exact c1.1);have f1:H (jI w4 w g4 (k+1) cap4 (fun j=>if j=k then x else O j)):=by
       have hx:sL (fun j=>if j=k then x else O j) (k+1)=sL O k++[Ag x]:=by
        rw[JY,xQ (S':=O) (fun i hi=>by rw[A5 (by omega)])];simp
       show jI _ _ _ _ _ _;unfold jI;rw[hx];exact n0
      clear n0 f0 x0 h0 cq KR KO;refine(HU _ (jI.at g1)).mono ?_;rintro e w9 ⟨g9,c9,rfl,c0,b0⟩;have p0:=v0.size;have HR9:H (jI w9 w g9 m' c9 R'):=c0.base p0;have k1:=(A0 c0 _ rfl).1;have HO9:H (jI w9 w g4 (k+1) cap4 (fun j=>if j=k then x else O j)):=f1.below b0;have HB9:H (Ab w w w9):=v0.trans (b0.mono p0);have HQQ:H (∀ j,j<k+1->(if j=k then x else O j)=PF j):=fun j hj=>by
       by_cases e:j=k
       .rw[A6 e,e];exact HQ
       .rw[A5 e];exact HO j (by omega)
      clear c0 b0;go_wp2
      go_roundg m'
      case measure=>exact hlt.2
      case rel=>exact⟨m',g9,c9,p',g4,k+1,cap4,R',_,rfl,hlt.1,by omega,rfl,rfl,rfl,HR9.out,HO9.out,by omega,hck,HQQ,HC2,HP2,HS2,HB9.out⟩
     .have m0:¬ ((nb p:Nat):Int)<(m:Int):=by omega
      have HC2:H (k+pl (p / 2) (hf m)=L):=by have:=HC.out;rw[Gt.pl_no p e1 hnb] at this;exact this
      have HP2:H (∀ j,Gt.pf (hf m) (up m R) (p / 2) j=PF (k+j)):=fun j=>by rw[<-Gt.pf_no R p j e1 hnb,HP.out]
      generalize nb p=q at u4 m0;generalize p / 2=p' at u5 u6 hlt HC2 HP2;generalize hf m=m' at u8 u9 hlt HC2 HP2 HS2 HU;generalize up m R=R' at HP2 HS2 HU;have KR:H (jI wr w G m c R):=d0;have KO:H (jI wr w Go k co O):=a0;have c1:=A0 a0 _ rfl;clear d0 a0 HC HP HS;go_wp2_with fail
      refine(HU _ (jI.at KR)).mono ?_;rintro e w9 ⟨g9,c9,rfl,c0,b0⟩;have HR9:H (jI w9 w g9 m' c9 R'):=c0.base t0;have k1:=(A0 c0 _ rfl).1;have HO9:H (jI w9 w Go k co O):=KO.below b0;have HB9:H (Ab w w w9):=e0.trans (b0.mono t0);clear c0 b0;go_wp2
      go_roundg m'
      case measure=>exact hlt.2
      case rel=>exact⟨m',g9,c9,p',Go,k,co,R',O,rfl,hlt.1,by omega,rfl,rfl,rfl,HR9.out,HO9.out,by omega,hkL,HO,HC2,HP2,HS2,HB9.out⟩
  .have KI:inB i 0 ((n:Int)-1)=Av:=ZP hin;have hB:pfB n S i=Av:=by unfold pfB;rw[hV];simp[inT];omega
   rw[hB];clear h hL hB hV k0;go_enter func165,ntmps165
   go_wp2_with (first|(go_at_call 189;refine KV.mono ?_;rintro e w' ⟨rfl,hw⟩;obtain rfl:=hw.symm)|(go_at_call 43;refine(jM _ _ _ _).mono ?_;rintro e w' ⟨rfl,hw⟩;obtain rfl:=hw.symm))
   go_ret2
   exact⟨_,rfl,⟨_,_,rfl,j0⟩,g0⟩
end Go.Proofs.YtcaejlalnjnifaaGreat
namespace Go.Proofs.YtcaejlalnjnifaaGreat
noncomputable def lvs (k:Int) (n:Nat) (S:Nat->BA):Nat->BA:=fun i=>plf k (n:Int) (i:Int) (S i)
theorem jJk (k:Int) (n:Nat) (S:Nat->BA) (i:Nat):(lvs k n S i).size<=16:=jRr _ _ _ _
theorem Tryz.infoCut:(Tryz.prog.info? 237).map (·.size)=M 4:=by kernel_rfl
theorem jLs (k:Int) (a:Option Al) (n cap:Nat) (S:Nat->ByteArray) (w:Ad) (h:jK w a n S) (hn:n<=64) (hS:∀ i,i<n->(S i).size<=1048576):Ak Ac 210 #[Ao Ar k,V a n cap] w fun e w'=>∃ G,e=Ae (Ai #[Ao Ar k,V a n cap,V (M ⟨G,0,I⟩) n n,Ag (rtS n (lvs k n S))])/\jI w' w.1.size (M ⟨G,0,I⟩) n n (lvs k n S)/\Ab w.1.size w w':=by
 obtain⟨i0,hi,c1,e1,g1⟩:=Ch Tryz.infoStr;obtain⟨B,HB⟩:=nmH w.1.size;obtain⟨w0,k0⟩:=nmH (w.alloc (J #[Ao Ar 0,V I 0 0,V I 0 0,Ag ⟨#[]⟩] 237));have t0:=jZ k0 HB;have n0:=bl1 k0;have a1:B<w0.1.size:=t0.out.lt;have KH:H (jK w0 a n S):=h.below n0;have m0:H (Ab w.1.size w w0):=n0;have KS:H (∀ i,i<n->(S i).size<=1048576):=hS;obtain⟨L,HL⟩:=nnH (lvs k n S);have s0:H (∀ i,(L i).size<=16):=fun i=>by rw[<-HL.out];exact jJk _ _ _ _
 rw[HL.out];clear h n0 hS;go_enter Tryz.func210,Tryz.ntmps210
 go_wp2_with (at_make;rw[<-k0.out,<-HB.out];refine Cx _ rfl _ _ 27 rfl w0.1.size 9 i0 (Ag Ap) 1 C3 hi c1 e1 Ar Ar _ _ n rfl rfl rfl rfl (by rw[g1];omega) (by unfold Au;omega) (Ay _) ?_;intro w1 a0 e0)
 have v0:Ab w0.1.size w0 w1:=(Az _ _).grown e0 (Ay _) (by simp);obtain⟨G,HG⟩:=nmH w0.1.size;have K1:H (jI w1 w0.1.size (M ⟨G,0,I⟩) n n (fun i=>if i<0 then L i else Ap)):=by
  have e:sL (fun i=>if i<0 then L i else Ap) n=List.replicate n (Ag Ap):=by rw[<-ZE];exact xQ (fun i _=>by simp)
  show jI _ _ _ _ _ _;unfold jI;rw[e,HG.out];simpa [Value.cells,Dp] using a0
 have KB1:H (Ab w0.1.size w0 w1):=v0;rw[<-HG.out];clear a0 e0 v0 hi c1 e1 g1;go_loopw [15] (fun i wr=>∃ c:Nat,c<=n/\i=Ao Ar c/\jI wr w0.1.size (M ⟨G,0,I⟩) n n (fun i=>if i<c then L i else Ap)/\Ab w0.1.size w0 wr) (fun i _=>n-(intOf i).toNat)
 case atStart=>exact⟨0,Bi _,rfl,K1.out,KB1.out⟩
 case round=>
  obtain⟨c,hk,rfl,a0,c0⟩:=hrel;clear K1 KB1;by_cases hlt:c<n
  .have p1:(c:Int)<(n:Int):=by omega
   obtain⟨b1,o1,rfl,x0⟩:=(KH.out.below c0) c hlt;have KC:H (∀ W,Ak Ac 184 #[Ao Ar k,Ao Ar (n:Int),Ao Ar (c:Int),Ag (S c)] W fun e w'=>e=Ae (Ag (L c))/\Ab W.1.size W w'):=fun W=>by
    have:=QR k (n:Int) (c:Int) (S c) W (KS.out c hlt)
    rw[<-HL.out];exact this
   have z0:=(A0 a0 _ rfl).2;obtain⟨old,j0⟩:∃ v,wr.cell? ⟨G,c,I⟩=M v:=by
    rw[Bt a0 c (by omega)];exact⟨_,zA _ _ _ hlt⟩
   have y0:=B0 a0 c;have KO:H (jI wr w0.1.size (M ⟨G,0,I⟩) n n (fun i=>if i<c then L i else Ap)):=a0;have KB:H (Ab w0.1.size w0 wr):=c0;have k1:w0.1.size<=G:=by rw[HG.out];exact Ay _
   clear a0 c0;generalize S c=sc at x0 KC;go_wp2_with fail
   refine Ax (KC.out _) ?_;rintro e w2 ⟨rfl,h0⟩;have m1:=(h0.cell (p:=⟨G,c,I⟩) z0).trans j0;have n1:=(Cw (a:=⟨G,c,I⟩) (h0.block _ z0)).trans y0;have p0:=Dh (jI.below KO.out h0) c (Ag (L c));rw[jA5 _ _ _ _ hlt] at p0;have HO:H (jI (w2.setCell ⟨G,c,I⟩ (Ag (L c))) w0.1.size (M ⟨G,0,I⟩) n n (fun i=>if i<c+1 then L i else Ap)):=jI.congr p0.1 (fun i _=>by
    by_cases e:i=c
    .simp[e]
    .by_cases e2:i<c
     .simp[e,e2,show i<c+1 by omega]
     .simp[e,e2,show ¬ i<c+1 by omega])
   have HB':H (Ab w0.1.size w0 (w2.setCell ⟨G,c,I⟩ (Ag (L c)))):=(jA KB.out h0).setCell k1 _;generalize L c=sv at HO HB';clear p0 j0 y0 KC KO KB x0;go_wp2
   go_roundw
   case rel=>exact⟨c+1,by omega,by go_num,HO.out,HB'.out⟩
   case measure=>simp[intOf] <;> omega
  .obtain rfl:c=n:=by omega
   have HO:H (jI wr w0.1.size (M ⟨G,0,I⟩) c c L):=a0.congr (fun i hi=>A6 hi);have r0:H (Ab w0.1.size w0 wr):=c0;have KR:H (Ak Ac 225 #[V (M ⟨G,0,I⟩) c c] wr fun e w'=>e=Ae (Ah #[Ag (rtS c L),.bool (lvB c L)])/\Ab wr.1.size wr w'):=jMt _ _ _ L _ (jI.at HO.out) (by omega) (fun i _=>by have:=s0.out i;unfold Au;omega);obtain⟨rt,u0⟩:=nnH (rtS c L);rw[u0.out] at KR;generalize lvB c L=okr at KR;clear a0 c0 KH;go_wp2_with fail
   refine Ax KR.out ?_;rintro e w3 ⟨rfl,o0⟩;have d0:=jA r0.out o0;have b0:H (Row w3 B 237 #[Ao Ar 0,V I 0 0,V I 0 0,Ag ⟨#[]⟩]):=t0.out.below d0 a1;have HO3:H (jI w3 w0.1.size (M ⟨G,0,I⟩) c c L):=jI.below HO.out o0;have q0:=b0.out.cell 0;have q1:=b0.out.cell 1;have q2:=b0.out.cell 2;have q3:=b0.out.cell 3;have f0:=b0.out.free 0;have f1:=b0.out.free 1;have f2:=b0.out.free 2;have f3:=b0.out.free 3;simp at q0 q1 q2 q3;clear HO r0 o0 KR;have ZR:H (Row ((((w3.setCell ⟨B,0,I⟩ (Ao Ar k)).setCell ⟨B,1,I⟩ (V a c cap)).setCell ⟨B,2,I⟩ (V (M ⟨G,0,I⟩) c c)).setCell ⟨B,3,I⟩ (Ag rt)) B 237 #[Ao Ar k,V a c cap,V (M ⟨G,0,I⟩) c c,Ag rt]):=(((b0.out.set 0 _).set 1 _).set 2 _).set 3 _;have j1:G≠B:=by rw[HG.out];omega
   have g0:w.1.size<=B:=by rw[HB.out];exact Ay _
   have i1:H (Ab w.1.size w w3):=m0.out.trans (d0.mono m0.out.size);have set1:∀ (W:Ad) (o:Nat) (v:Aj),jI W w0.1.size (M ⟨G,0,I⟩) c c L->jI (W.setCell ⟨B,o,I⟩ v) w0.1.size (M ⟨G,0,I⟩) c c L:=fun W o v hW=>jL hW (jN _ _ _ _) (fun x e=>by cases e;exact j1)
   have ZO:H (jI ((((w3.setCell ⟨B,0,I⟩ (Ao Ar k)).setCell ⟨B,1,I⟩ (V a c cap)).setCell ⟨B,2,I⟩ (V (M ⟨G,0,I⟩) c c)).setCell ⟨B,3,I⟩ (Ag rt)) w.1.size (M ⟨G,0,I⟩) c c L):=jI.base (set1 _ _ _ (set1 _ _ _ (set1 _ _ _ (set1 _ _ _ HO3.out)))) m0.out.size;clear set1 d0;go_wp2
   refine B7 (v:=Ai #[Ao Ar k,V a c cap,V (M ⟨G,0,I⟩) c c,Ag rt]) (Cs Tryz.results210 _ _ B 237 _ (0,0) _ (by simp) ZR.out Tryz.underlying237 (by rfl) Tryz.infoCut) rfl ⟨G,by rw[u0.out],ZO.out,?_⟩;exact Bn (Bn (Bn (Bn i1.out g0 _) g0 _) g0 _) g0 _
theorem JS {s:BA} {k n:Int} (h:vJ s k n=Aw):s.size<=2000/\1<=k/\k<=n/\n<=16:=by
 unfold vJ at h;rw[Cr] at h;exact⟨Do h.1,zK h.2⟩
theorem jEj {s:BA} {k n:Int} (h:vJ s k n=Aw) (i:Nat):(XY s k.toNat i).size<=2002:=by
 obtain⟨h1,h2,h3,h4⟩:=JS h;rw[show (XY s k.toNat i).size=XA s.size k.toNat from zM _ _];have:=ZI (s:=s.size) (k:=k.toNat) (by omega)
 omega
theorem jKf (k:Int) (ab:Option Al) (n cb:Nat) (S:Nat->ByteArray) (G:Nat) (L:Nat->ByteArray) (rt:ByteArray) (i:Nat) (w:Ad) (h:jK w ab n S) (hg:jK w (M ⟨G,0,I⟩) n L) (hi:i<n) (hn:n<=64) (hL:∀ i,(L i).size<=16) (hr:rt.size<=1048576):Ak Ac 211 #[Ai #[Ao Ar k,V ab n cb,V (M ⟨G,0,I⟩) n n,Ag rt],Ao Ar (i:Int)] w fun e w'=>∃ v,e=Ae (pcV rt k (n:Int) (i:Int) (S i) v)/\jCk w w' v (pfR n L (i:Int)) (pfF n L (i:Int))/\Ab w.1.size w w':=by
 obtain⟨B,HB⟩:=nmH w.1.size;obtain⟨w0,k0⟩:=nmH ((w.alloc (J #[Ao Ar k,V ab n cb,V (M ⟨G,0,I⟩) n n,Ag rt] 237)).alloc (J #[Ag ⟨#[]⟩,Ao Ar 0,Ao Ar 0,Ao Ar 0,Ag ⟨#[]⟩,V I 0 0] 29));have o0:=zP k0 HB;have u0:H (Row w0 (B+1) 29 #[Ag ⟨#[]⟩,Ao Ar 0,Ao Ar 0,Ao Ar 0,Ag ⟨#[]⟩,V I 0 0]):=by
  show Row _ _ _ _;rw[k0.out,HB.out];have:=Row.new (w.alloc (J #[Ao Ar k,V ab n cb,V (M ⟨G,0,I⟩) n n,Ag rt] 237)) #[Ag ⟨#[]⟩,Ao Ar 0,Ao Ar 0,Ao Ar 0,Ag ⟨#[]⟩,V I 0 0] 29
  simpa using this
 have r0:=bl2 k0;have d0:B+1<w0.1.size:=u0.out.lt;have j1:w.1.size<=B:=by rw[HB.out];exact Ay _
 have t0:H (w.1.size+1=B+1):=by show _=_;rw[HB.out]
 obtain⟨bb,ob,rfl,s0⟩:=h i hi;have b1:bb<w.1.size:=A7 s0;have KP:H (Ak Ac 226 #[V (M ⟨G,0,I⟩) n n,Ao Ar (i:Int)] w0 fun e w'=>∃ v,e=Ae (Ah #[v,.bool (pfB n L (i:Int))])/\jCk w0 w' v (pfR n L (i:Int)) (pfF n L (i:Int))/\Ab w0.1.size w0 w'):=jKi _ _ _ L _ _ (hg.below r0) (by omega) (fun i _=>by have:=hL i;unfold Au;omega);have KC:H (∀ W,Ak Ac 120 #[Ag rt] W fun e w'=>e=Ae (Ag rt)/\Ab W.1.size W w'):=fun W=>qN rt W hr
 have h0:H (Ab w.1.size w w0):=r0;obtain⟨m,HM⟩:=nnH (pfR n L (i:Int));obtain⟨F,HF⟩:=nnH (pfF n L (i:Int));rw[HM.out,HF.out] at KP;rw[HM.out,HF.out];generalize pfB n L (i:Int)=okp at KP;have c0:=o0.out.cell 2;simp at c0;have i0:H (w0.cell? ⟨bb,ob+i,I⟩=M (Ag (S i))):=(h0.out.cell (p:=⟨bb,ob+i,I⟩) b1).trans s0;have k1:(i:Int)<(n:Int):=by omega
 obtain⟨sb,y0⟩:=nnH (S i);rw[y0.out] at i0;rw[y0.out];clear h hg r0 s0 hL;go_enter Tryz.func211,Tryz.ntmps211
 go_wp2_with fail
 rw[<-k0.out,<-HB.out];refine Ax KP.out ?_;rintro e w1 ⟨v1,rfl,⟨aP,cP,rfl,O1⟩,g0⟩;have j0:H (Row w1 B 237 #[Ao Ar k,V (M ⟨bb,ob,I⟩) n cb,V (M ⟨G,0,I⟩) n n,Ag rt]):=o0.out.below g0 o0.out.lt;have v0:H (Row w1 (B+1) 29 #[Ag ⟨#[]⟩,Ao Ar 0,Ao Ar 0,Ao Ar 0,Ag ⟨#[]⟩,V I 0 0]):=u0.out.below g0 d0;have n0:bb<w0.1.size:=Br b1 h0.out.size;have a1:=(g0.cell (p:=⟨bb,ob+i,I⟩) n0).trans i0.out;have c1:bb<w1.1.size:=Br n0 g0.size;have q0:=j0.out.cell 0;have q1:=j0.out.cell 1;have q3:=j0.out.cell 3;simp at q0 q1 q3;have lB:=j0.out.lt;have m1:¬ bb=B+1:=by have:=t0.out;omega
 have i1:¬ B+1=bb:=by have:=t0.out;omega
 have lP:=v0.out.lt;have g1:H (jI w1 w0.1.size aP m cP F):=O1;have z0:H (Ab w.1.size w w1):=h0.out.trans (g0.mono h0.out.size);clear O1 KP c0 i0 g0 h0;go_wp2_with fail
 go_region_held3 (fun w'=>w'.cell? ⟨B,0,I⟩=M (Ao Ar k)/\w'.cell? ⟨B,1,I⟩=M (V (M ⟨bb,ob,I⟩) n cb)/\w'.cell? ⟨B,3,I⟩=M (Ag rt)/\w'.cell? ⟨bb,ob+i,I⟩=M (Ag sb)) (go_keep) ((go_at_call 120;refine Ax (KC.out _) ?_;rintro e w5 ⟨rfl,m0⟩;have b0:=jC m0;clear m0;have p0:=(b0.cell (p:=⟨B,0,I⟩) lB).trans q0;have p1:=(b0.cell (p:=⟨B,1,I⟩) lB).trans q1;have p3:=(b0.cell (p:=⟨B,3,I⟩) lB).trans q3;have p4:=(b0.cell (p:=⟨bb,ob+i,I⟩) c1).trans a1;have a0:H (Row w5 (B+1) 29 #[Ag ⟨#[]⟩,Ao Ar 0,Ao Ar 0,Ao Ar 0,Ag ⟨#[]⟩,V I 0 0]):=v0.out.below b0 lP;have x0:=a0.out.cell 0;have x1:=a0.out.cell 1;have x2:=a0.out.cell 2;have x3:=a0.out.cell 3;have x4:=a0.out.cell 4;have x5:=a0.out.cell 5;have f0:=a0.out.free 0;have f1:=a0.out.free 1;have f2:=a0.out.free 2;have f3:=a0.out.free 3;have f4:=a0.out.free 4;have f5:=a0.out.free 5;simp at x0 x1 x2 x3 x4 x5))
 all_goals
  have ZR:H (Row ((((((w5.setCell ⟨B+1,0,I⟩ (Ag rt)).setCell ⟨B+1,1,I⟩ (Ao Ar k)).setCell ⟨B+1,2,I⟩ (Ao Ar (n:Int))).setCell ⟨B+1,3,I⟩ (Ao Ar (i:Int))).setCell ⟨B+1,4,I⟩ (Ag sb)).setCell ⟨B+1,5,I⟩ (V aP m cP)) (B+1) 29 (pcC rt k (n:Int) (i:Int) sb (V aP m cP))):=(((((a0.out.set 0 _).set 1 _).set 2 _).set 3 _).set 4 _).set 5 _;have ZO:H (jI ((((((w5.setCell ⟨B+1,0,I⟩ (Ag rt)).setCell ⟨B+1,1,I⟩ (Ao Ar k)).setCell ⟨B+1,2,I⟩ (Ao Ar (n:Int))).setCell ⟨B+1,3,I⟩ (Ao Ar (i:Int))).setCell ⟨B+1,4,I⟩ (Ag sb)).setCell ⟨B+1,5,I⟩ (V aP m cP)) w.1.size aP m cP F):=jI.base (jI.setFar (jI.setFar (jI.setFar (jI.setFar (jI.setFar (jI.setFar (jI.below g1.out b0) d0) d0) d0) d0) d0) d0) (by have:=t0.out;omega);have e1:H (Ab w.1.size w w5):=z0.out.trans (b0.mono z0.out.size);have e0:w.1.size<=B+1:=by omega
  clear p0 p1 p3 p4 x0 x1 x2 x3 x4 x5 f0 f1 f2 f3 f4 f5;go_wp2
  refine B7 (v:=pcV rt k (n:Int) (i:Int) sb (V aP m cP)) (Cs Tryz.results211 _ _ (B+1) 29 _ (0,0) _ (by simp) ZR.out Tryz.underlying29 (by rfl) Tryz.infoPc) rfl ⟨_,rfl,⟨_,_,rfl,ZO.out⟩,?_⟩;exact Bn (Bn (Bn (Bn (Bn (Bn e1.out e0 _) e0 _) e0 _) e0 _) e0 _) e0 _
structure Pc where
 r:BA
 k:Int
 n:Int
 i:Int
 b:BA
 m:Nat
 S:Nat->BA
def cel (p:Pc) (v:Aj):Nat->Aj
 | 0=>Ag p.r
 | 1=>Ao Ar p.k
 | 2=>Ao Ar p.n
 | 3=>Ao Ar p.i
 | 4=>Ag p.b
 | _=>v
def gL (c:Nat->Nat->Aj) (n:Nat):List Aj:=(List.range (n*6)).map fun j=>c (j / 6) (j % 6)
theorem XN (c:Nat->Nat->Aj) (n:Nat):(gL c n).length=n*6:=by simp[gL]
theorem XM (c:Nat->Nat->Aj) (n i q:Nat) (hi:i<n) (hq:q<6):(gL c n)[i*6+q]?=M (c i q):=by
 have h:i*6+q<n*6:=by omega
 simp[gL,h,show (i*6+q) / 6=i by omega,show (i*6+q) % 6=q by omega]
theorem jBm {c c':Nat->Nat->Aj} {n:Nat} (h:∀ i q,i<n->q<6->c i q=c' i q):gL c n=gL c' n:=by
 unfold gL;refine Ek fun j hj=>?_
 have:j<n*6:=by simpa using hj
 exact h _ _ (by omega) (by omega)
theorem jQ4 (c:Nat->Nat->Aj) (n i q:Nat) (v:Aj) (hi:i<n) (hq:q<6):(gL c n).set (i*6+q) v=gL (fun i' q'=>if i'=i/\q'=q then v else c i' q') n:=by
 apply Cn
 intro j;rw[Ez];by_cases hj:j<n*6
 .by_cases e:i*6+q=j
  .subst e;rw[A6 rfl,A6 (by rw[XN];omega),XM _ _ _ _ hi hq];simp
  .rw[A5 e];have h1:=XM c n (j / 6) (j % 6) (by omega) (by omega);have h2:=XM (fun i' q'=>if i'=i/\q'=q then v else c i' q') n (j / 6) (j % 6) (by omega) (by omega);rw[show j / 6*6+j % 6=j by omega] at h1 h2;rw[h1,h2,A5 (by omega)]
 .rw[A5 (by omega)];rw[Bb (by rw[XN];omega),Bb (by rw[XN];omega)]
theorem jO9 (c:Nat->Nat->Aj) (n:Nat):gL c (n+1)=gL c n++[c n 0,c n 1,c n 2,c n 3,c n 4,c n 5]:=by
 apply Cn
 intro j;by_cases hj:j<n*6
 .rw[Ea (by rw[XN];omega)];have h1:=XM c (n+1) (j / 6) (j % 6) (by omega) (by omega);have h2:=XM c n (j / 6) (j % 6) (by omega) (by omega);rw[show j / 6*6+j % 6=j by omega] at h1 h2;rw[h1,h2]
 .rw[Ds (by rw[XN];omega),XN];by_cases h6:j<(n+1)*6
  .obtain⟨q,rfl⟩:∃ q,j=n*6+q:=⟨j-n*6,by omega⟩;have hq:q<6:=by omega
   rw[XM _ _ _ _ (by omega) hq,show n*6+q-n*6=q by omega];match q,hq with
   | 0,_=>rfl
   | 1,_=>rfl
   | 2,_=>rfl
   | 3,_=>rfl
   | 4,_=>rfl
   | 5,_=>rfl
  .rw[Bb (by rw[XN];omega),Bb (by simp;omega)]
def jEc (w:Ad) (B:Nat) (a:OA) (n cap:Nat) (c:Nat->Nat->Aj):Prop:=w.ownsRow B 29 6 (V a n cap) n (gL c n)
theorem jEc.congr {w:Ad} {B:Nat} {a:OA} {n cap:Nat} {c c':Nat->Nat->Aj} (h:jEc w B a n cap c) (e:∀ i q,i<n->q<6->c i q=c' i q):jEc w B a n cap c':=by
 unfold jEc;rw[<-jBm e];exact h
theorem jEc.below {w w':Ad} {B:Nat} {a:OA} {n cap:Nat} {c:Nat->Nat->Aj} (h:jEc w B a n cap c) (hb:Ab w w w'):jEc w' B a n cap c:=jF h hb
theorem jEc.cell {w:Ad} {B g:Nat} {n cap:Nat} {c:Nat->Nat->Aj} (h:jEc w B g n cap c) {i q:Nat} (hi:i<n) (hq:q<6):w.cell? (Q g (i*6+q) I)=M (c i q):=by
 have:=Bt h (i*6+q) (by omega)
 rw[this];exact XM _ _ _ _ hi hq
theorem jEc.set {w:Ad} {B g:Nat} {n cap:Nat} {c:Nat->Nat->Aj} (h:jEc w B g n cap c) {i q:Nat} (hi:i<n) (hq:q<6) (v:Aj):jEc (w.setCell (Q g (i*6+q) I) v) B g n cap (fun i' q'=>if i'=i/\q'=q then v else c i' q'):=by
 have:=Dh h (i*6+q) v
 rw[jQ4 _ _ _ _ _ hi hq] at this;exact this.1
def jCi (w:Ad) (B:Nat) (a:OA) (n cap:Nat) (A:Nat->OA) (C:Nat->Nat) (P:Nat->Pc):Prop:=
 jEc w B a n cap (fun i=>cel (P i) (V (A i) (P i).m (C i)))/\(∀ i,i<n->jI w B (A i) (P i).m (C i) (P i).S) /\
 (∀ i j x y,i<j->j<n->A i=M x->A j=M y->x.block≠y.block)/\(∀ i x y,i<n->A i=M x->a=M y->x.block≠y.block)
def jQs (w w':Ad) (v:Aj) (n:Nat) (P:Nat->Pc):Prop:=∃ g cap A C,v=V (Q g 0 I) n cap/\jCi w' w (Q g 0 I) n cap A C P
noncomputable def jLp (k:Int) (n:Nat) (S:Nat->BA):Nat->Pc:=fun i=>⟨rtS n (lvs k n S),k,(n:Int),(i:Int),S i,pfR n (lvs k n S) (i:Int),pfF n (lvs k n S) (i:Int)⟩
structure Sl where
 r:BA
 p:Pc
 h:Bool
 e:Bool
 d:Bool
 o:Bool
 ze:List Int
 zr:List Int
def slD (s:Sl):Nat->Dt
 | 0=>.val (Ag s.r)
 | 1=>.val (Ag s.p.r)
 | 2=>.val (Ao Ar s.p.k)
 | 3=>.val (Ao Ar s.p.n)
 | 4=>.val (Ao Ar s.p.i)
 | 5=>.val (Ag s.p.b)
 | 6=>txD s.p.m s.p.S
 | 7=>.val (.bool s.h)
 | 8=>.val (.bool s.e)
 | 9=>.val (.bool s.d)
 | 10=>.val (.bool s.o)
 | 11=>inD s.ze
 | _=>inD s.zr
abbrev slC (s:Sl) (v6 v11 v12:Aj):Array Aj:=#[Ag s.r,Ag s.p.r,Ao Ar s.p.k,Ao Ar s.p.n,Ao Ar s.p.i,Ag s.p.b,v6,.bool s.h,.bool s.e,.bool s.d,.bool s.o,v11,v12]
abbrev slV (s:Sl) (v6 v11 v12:Aj):Aj:=Ai (slC s v6 v11 v12)
structure Sy where
 k:Int
 f:Int
 t:Int
 r:BA
 p:Pc
def syD (s:Sy):Nat->Dt
 | 0=>.val (Ao Ar s.k)
 | 1=>.val (Ao Ar s.f)
 | 2=>.val (Ao Ar s.t)
 | 3=>.val (Ag s.r)
 | 4=>.val (Ag s.p.r)
 | 5=>.val (Ao Ar s.p.k)
 | 6=>.val (Ao Ar s.p.n)
 | 7=>.val (Ao Ar s.p.i)
 | 8=>.val (Ag s.p.b)
 | _=>txD s.p.m s.p.S
abbrev syC (s:Sy) (v:Aj):Array Aj:=#[Ao Ar s.k,Ao Ar s.f,Ao Ar s.t,Ag s.r,Ag s.p.r,Ao Ar s.p.k,Ao Ar s.p.n,Ao Ar s.p.i,Ag s.p.b,v]
abbrev syV (s:Sy) (v:Aj):Aj:=Ai (syC s v)
abbrev jIl (y:Nat->Aj):Aj:=Ai #[y 0,y 1,y 2,y 3,y 4,y 5,y 6,y 7,y 8,y 9,y 10,y 11,y 12]
abbrev jQu (y:Nat->Aj):Aj:=Ai #[y 0,y 1,y 2,y 3,y 4,y 5,y 6,y 7,y 8,y 9]
def qG (n:Nat) (S:Nat->Sl):Dt:=.lst 42 13 n fun i=>slD (S i)
def qJ (n:Nat) (S:Nat->Sy):Dt:=.lst 31 10 n fun i=>syD (S i)
theorem vI {w:Ad} {n:Nat} {S:Nat->Sl} {a:OA} {cap:Nat} (h:Rd w (qG n S) (V a n cap)) {i:Nat} (hi:i<n):∃ (b off:Nat) (y:Nat->Aj) (a6 a0 b0:OA) (c6 c0 d0:Nat),a=M (Q b off I)/\(∀ q,q<13->w.cell? (Q b (off+(i*13+q)) I)=M (y q))/\jIl y=slV (S i) (V a6 (S i).p.m c6) (V a0 (S i).ze.length c0) (V b0 (S i).zr.length d0)/\jK w a6 (S i).p.m (S i).p.S/\jH w a0 (S i).ze.length (S i).ze/\jH w b0 (S i).zr.length (S i).zr:=by
 obtain⟨b,off,y,ea,hc,hr⟩:=h.row hi;obtain⟨a6,c6,e6⟩:=(hr 6 (by omega)).shape;have r6:=hr 6 (by omega);rw[e6] at r6;obtain⟨a0,c0,e0⟩:=(hr 11 (by omega)).shape;have i0:=hr 11 (by omega);rw[e0] at i0;obtain⟨b0,d0,f0⟩:=(hr 12 (by omega)).shape;have j0:=hr 12 (by omega);rw[f0] at j0;have g0:=hr 0 (by omega);have g1:=hr 1 (by omega);have g2:=hr 2 (by omega);have g3:=hr 3 (by omega);have g4:=hr 4 (by omega);have g5:=hr 5 (by omega);have g7:=hr 7 (by omega);have g8:=hr 8 (by omega);have g9:=hr 9 (by omega);have h0:=hr 10 (by omega);simp only[Rd,slD] at g0 g1 g2 g3 g4 g5 g7 g8 g9 h0;exact⟨b,off,y,a6,a0,b0,c6,c0,d0,ea,hc,by simp only[jIl,slV,slC,g0,g1,g2,g3,g4,g5,g7,g8,g9,h0,e6,e0,f0],zW.1 r6,qK.1 i0,qK.1 j0⟩
theorem jB6 {w:Ad} {n:Nat} {S:Nat->Sy} {a:OA} {cap:Nat} (h:Rd w (qJ n S) (V a n cap)) {i:Nat} (hi:i<n):∃ (b off:Nat) (y:Nat->Aj) (a9:OA) (c9:Nat),a=M (Q b off I)/\(∀ q,q<10->w.cell? (Q b (off+(i*10+q)) I)=M (y q))/\jQu y=syV (S i) (V a9 (S i).p.m c9)/\jK w a9 (S i).p.m (S i).p.S:=by
 obtain⟨b,off,y,ea,hc,hr⟩:=h.row hi;obtain⟨a9,c9,e9⟩:=(hr 9 (by omega)).shape;have r9:=hr 9 (by omega);rw[e9] at r9;have g0:=hr 0 (by omega);have g1:=hr 1 (by omega);have g2:=hr 2 (by omega);have g3:=hr 3 (by omega);have g4:=hr 4 (by omega);have g5:=hr 5 (by omega);have g6:=hr 6 (by omega);have g7:=hr 7 (by omega);have g8:=hr 8 (by omega);simp only[Rd,syD] at g0 g1 g2 g3 g4 g5 g6 g7 g8;exact⟨b,off,y,a9,c9,ea,hc,by simp only[jQu,syV,syC,g0,g1,g2,g3,g4,g5,g6,g7,g8,e9],zW.1 r9⟩
theorem jAh {w:Ad} {b o:Nat} {y:Nat->Aj} (h:∀ q,q<13->w.cell? (Q b (o+q) I)=M (y q)):w.rangeAt b o [y 0,y 1,y 2,y 3,y 4,y 5,y 6,y 7,y 8,y 9,y 10,y 11,y 12]:=fun j v hv=>by
 have hj:=(Bz.1 hv).1;rw[h j hj,<-hv];match j,hj with
 | 0,_|1,_|2,_|3,_|4,_|5,_|6,_|7,_|8,_|9,_|10,_|11,_|12,_=>rfl
theorem jPy {w:Ad} {b o:Nat} {y:Nat->Aj} (h:∀ q,q<10->w.cell? (Q b (o+q) I)=M (y q)):w.rangeAt b o [y 0,y 1,y 2,y 3,y 4,y 5,y 6,y 7,y 8,y 9]:=fun j v hv=>by
 have hj:=(Bz.1 hv).1;rw[h j hj,<-hv];match j,hj with
 | 0,_|1,_|2,_|3,_|4,_|5,_|6,_|7,_|8,_|9,_=>rfl
theorem Tryz.infoSl:(Tryz.prog.info? 42).map (·.size)=M 13:=by kernel_rfl
theorem Tryz.infoNd:(Tryz.prog.info? 26).map (·.size)=M 3:=by kernel_rfl
theorem Tryz.infoSy:(Tryz.prog.info? 31).map (·.size)=M 10:=by kernel_rfl
theorem jEt (r:BA) (k n i:Int) (b:BA) (B:Nat) (v:Aj) (m:Nat) (S:Nat->BA) (l q:Nat) (F:Nat->Prop) (w:Ad) (h:Ow w B (txD m S) v F) (hm:m<=1048576) (hk:l<=500000000) (hq:l+m=q):Ak prog 149 #[pcV r k n i b v,(l:Int)] w fun e w'=>e=Ae (q:Int)/\Trn w w' F:=by
 obtain⟨w0,b0⟩:∃ x,H (x=w.alloc (J (pcC r k n i b v) 29)):=⟨_,rfl⟩;have a0:Ab w w w0:=by rw[b0.out];exact(Az _ _).alloc (Ay _) _
 have c0:H (Trn w w0 F):=Trn.ofBelow F a0;have KM:H (Ak prog 99 #[v,(l:Int)] w0 _):=QM B v m S l q F w0 (h.below a0) hm hk hq;clear h a0 hm hk hq;go_enter func149,ntmps149
 go_wp2_with fail
 rw[<-b0.out];refine Ax KM.out ?_;rintro e w1 ⟨rfl,_,hT⟩;have KT:H (Trn w w1 F):=c0.trans hT;clear hT;go_wp2
 go_ret
 exact⟨rfl,KT⟩
theorem jEu (y:Sy) (B:Nat) (v:Aj) (l q:Nat) (F:Nat->Prop) (w:Ad) (h:Ow w B (txD y.p.m y.p.S) v F) (hm:y.p.m<=1048576) (hk:l<=500000000) (hq:l+y.p.m=q):Ak prog 94 #[syV y v,(l:Int)] w fun e w'=>e=Ae (q:Int)/\Trn w w' F:=by
 obtain⟨w0,b0⟩:∃ x,H (x=w.alloc (J (syC y v) 31)):=⟨_,rfl⟩;have a0:Ab w w w0:=by rw[b0.out];exact(Az _ _).alloc (Ay _) _
 have c0:H (Trn w w0 F):=Trn.ofBelow F a0;have KM:H (Ak prog 149 #[pcV y.p.r y.p.k y.p.n y.p.i y.p.b v,(l:Int)] w0 _):=jEt y.p.r y.p.k y.p.n y.p.i y.p.b B v y.p.m y.p.S l q F w0 (h.below a0) hm hk hq;clear h a0 hm hk hq;go_enter func94,ntmps94
 go_wp2_with fail
 rw[<-b0.out];refine Ax KM.out ?_;rintro e w1 ⟨rfl,hT⟩;have KT:H (Trn w w1 F):=c0.trans hT;clear hT;go_wp2
 go_ret
 exact⟨rfl,KT⟩
end Go.Proofs.YtcaejlalnjnifaaGreat
