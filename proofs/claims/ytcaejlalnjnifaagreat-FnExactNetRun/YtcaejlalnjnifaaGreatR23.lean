import Derived.Test.YtcaejlalnjnifaaGreatR21
import Derived.Test.YtcaejlalnjnifaaGreatR22
set_option maxHeartbeats 8000000
set_option maxRecDepth 2000
open Go.Value renaming slice->V,pointer->Af,string->Ag,tuple->Ah,int->Ao
open Option renaming none->I,some->M
open Go.RowKit renaming Hid->H,Below->Ab
open Go.Addr renaming mk->Q
open Go.Obj renaming cells->J
open Go renaming World->Ad,Value->Aj,Calls->Ak,maxLen->Au
open Go.Ending renaming returned->Ae
open Go.IntKind renaming i64->Ar
open Bool renaming false->Av,true->Aw
open Go.Proofs.Tryz
open Go.ChangeShapes Go.WideShapes Go.ChangeAt Go.RowKit
namespace Go.Proofs.YtcaejlalnjnifaaGreat
theorem Hr.flag {W:Ad} {B Hb:Nat} {id f:Int} {g n cap p:Nat} {S S':Nat->Sl} {sa:OA} {m sc:Nat} {Y:Nat->Sy} {F1 F2:Nat->Prop} (h:Hr W B Hb id f g n cap p S sa m sc Y F1 F2) (hp:p<n) (q:Nat) (hq:q<13) (b:Bool) (hS:∀ i q',q'<13->(if i=p/\q'=q then Dt.val b else slD (S i) q')=slD (S' i) q'):∃ a0,Hr (W.setCell (Q g (p*13+q) I) b) B Hb id f g n cap p S' sa m sc Y a0 F2/\(∀ x,a0 x->F1 x\/W.1.size<=x)/\Trn W (W.setCell (Q g (p*13+q) I) b) F1:=by
 obtain⟨G,b0,c0⟩:=Ow.mk h.o;have o8:Ow (W.setCell (Q g (p*13+q) I) b) B (qH n S') (V g n cap) (fun x=>F1 x\/W.1.size<=x):=(MkS.put c0 b0 hp hq (Trn.refl W _) (d':=.val b) (v':=.bool b) (H:=fun _=>False) rfl (fun x k=>k.elim)).congr (fun i q' _ d0=>hS i q' d0);have t8:Trn W (W.setCell (Q g (p*13+q) I) b) F1:=Trn.set _ _ _ (b0.head _ rfl);obtain⟨a0,hh,hF⟩:=h.slots t8 o8 (fun x k=>k);exact⟨a0,hh,hF,t8⟩
theorem Hr.slotc {W:Ad} {B Hb:Nat} {id f:Int} {g n cap p:Nat} {S:Nat->Sl} {sa:OA} {m sc:Nat} {Y:Nat->Sy} {F1 F2:Nat->Prop} (h:Hr W B Hb id f g n cap p S sa m sc Y F1 F2) (hp:p<n) (q:Nat) (hq:q<13):∃ v,W.cell? (Q g (p*13+q) I)=M v/\W.frozen? (Q g (p*13+q) I)=Av/\Rd W (slD (S p) q) v:=by
 obtain⟨G,b0,a0⟩:=Ow.mk h.o;obtain⟨v,c,fz,o⟩:=MkS.cell a0 hp hq;exact⟨v,c,fz,o.rd⟩
def XY (S:Nat->Sl) (p:Nat) (b:Bool) (i:Nat):Sl:=if i=p then {S p with o:=b} else S i
def jAr (S:Nat->Sl) (p:Nat) (i:Nat):Sl:=if i=p then {S p with d:=Aw} else S i
theorem jO1 (S:Nat->Sl) (p:Nat) (b:Bool) (i q:Nat) (hq:q<13):(if i=p/\q=10 then Dt.val b else slD (S i) q)=slD (XY S p b i) q:=by
 unfold XY;by_cases e:i=p
 .subst e;match q,hq with
  | 0,_|1,_|2,_|3,_|4,_|5,_|6,_|7,_|8,_|9,_|10,_|11,_|12,_=>simp[slD]
 .simp[e]
theorem jO3 (S:Nat->Sl) (p i q:Nat) (hq:q<13):(if i=p/\q=9 then Dt.val Aw else slD (S i) q)=slD (jAr S p i) q:=by
 unfold jAr;by_cases e:i=p
 .subst e;match q,hq with
  | 0,_|1,_|2,_|3,_|4,_|5,_|6,_|7,_|8,_|9,_|10,_|11,_|12,_=>simp[slD]
 .simp[e]
theorem jFj (id f:Int) (B Hb g n cap p:Nat) (S:Nat->Sl) (sa:OA) (m sc:Nat) (Y:Nat->Sy) (F1 F2:Nat->Prop) (st:Int) (w:Ad) (h:Hr w B Hb id f g n cap p S sa m sc Y F1 F2) (hf:1<=f/\f<=3) (hp:p<n) (b0:stI f (S p).ze.length (S p).zr.length=st):Ak prog 112 #[Af Hb,()] w fun e w'=>e=Ae (Ah #[])/\Hr w' B Hb id f g n cap p S sa m sc Y F1 F2/\Trn w w' (fun x=>x=Hb\/F1 x\/F2 x):=by
 obtain⟨b1,o1,y,a6,c0,d0,c6,e0,f0,e1,hc,ey,_,_,_⟩:=vJ h.o.rd hp;cases e1;have KH:=hd h;have HP:=hd hp;have KS:H (∀ W,Ab w w W->(W.cell? Hb=M (Ao Ar id)/\W.cell? (Q Hb 1 I)=M (Ao Ar f)/\W.cell? (Q Hb 2 I)=M (V g n cap)/\W.cell? (Q Hb 3 I)=M (Af (Q g (p*13) I)))/\W.cell? (Q g (p*13) I)=M (y 0)/\∀ q,q<13->W.cell? (Q g (p*13+q) I)=M (y q)):=fun W hW=>by
  have r:=(KH.below hW).r;obtain⟨z0,z1,z2,z3⟩:=r.c4 0 1 2 3;simp at z0 z1 z2 z3;have hq:∀ q,q<13->W.cell? (Q g (p*13+q) I)=M (y q):=fun q hq=>by
   have h1:=hc q hq;rw[Bt] at h1;exact(hW.cell (A7 h1)).trans h1
  exact⟨⟨z0,z1,z2,z3⟩,hq 0 (by omega),hq⟩
 have KT:H (∀ W,CB 118 #[ndV id f (V g n cap),jFy y] W st):=fun W=>by
  rw[ey,<-b0];exact vN id f _ (S p) _ c0 d0 _ _ e0 f0 W hf
 have hdr:=jD w;clear h hc ey b0 hf hp;go_enter func112,ntmps112
 go_wp2_with fail
 go_region_held3 (fun w'=>(w'.cell? (Q Hb 0 I)=M (Ao Ar id)/\w'.cell? (Q Hb 1 I)=M (Ao Ar f)/\w'.cell? (Q Hb 2 I)=M (V g n cap)/\w'.cell? (Q Hb 3 I)=M (Af (Q g (p*13) I)))/\w'.cell? (Q g (p*13) I)=M (y 0)/\∀ q,q<13->w'.cell? (Q g (p*13+q) I)=M (y q)) (exact KS _ (by assumption)) ((go_at_call 118;refine Ax (KT _) ?_;rintro e w7 ⟨rfl,a0⟩;have b7:=jC a0;clear a0))
 have KZ:H (Hr w7 B Hb id f g n cap p S sa m sc Y F1 F2/\Trn w w7 (fun x=>x=Hb\/F1 x\/F2 x)):=⟨KH.below b7,Trn.ofBelow _ b7⟩;clear b7;go_wp2
 go_end0
 exact⟨rfl,KZ⟩
theorem jD2 (id f:Int) (B Hb g n cap p:Nat) (S:Nat->Sl) (sa:OA) (m sc:Nat) (Y:Nat->Sy) (F1 F2:Nat->Prop) (st:Int) (w:Ad) (h:Hr w B Hb id f g n cap p S sa m sc Y F1 F2) (hf:1<=f/\f<=3) (hp:p<n) (b0:stI f (S p).ze.length (S p).zr.length=st) (hn:st<1\/(S p).d=Aw):Ak prog 112 #[Af Hb,(1:Int)] w fun e w'=>e=Ae (Ah #[])/\Hr w' B Hb id f g n cap p S sa m sc Y F1 F2/\Trn w w' (fun x=>x=Hb\/F1 x\/F2 x):=by
 obtain⟨b1,o1,y,a6,d0,e0,c6,f0,g0,e1,hc,ey,_,_,_⟩:=vJ h.o.rd hp;cases e1;have KH:=hd h;have HP:=hd hp;have KS:H (∀ W,Ab w w W->(W.cell? Hb=M (Ao Ar id)/\W.cell? (Q Hb 1 I)=M (Ao Ar f)/\W.cell? (Q Hb 2 I)=M (V g n cap)/\W.cell? (Q Hb 3 I)=M (Af (Q g (p*13) I)))/\W.cell? (Q g (p*13) I)=M (y 0)/\∀ q,q<13->W.cell? (Q g (p*13+q) I)=M (y q)):=fun W hW=>by
  have r:=(KH.below hW).r;obtain⟨z0,z1,z2,z3⟩:=r.c4 0 1 2 3;simp at z0 z1 z2 z3;have hq:∀ q,q<13->W.cell? (Q g (p*13+q) I)=M (y q):=fun q hq=>by
   have h1:=hc q hq;rw[Bt] at h1;exact(hW.cell (A7 h1)).trans h1
  exact⟨⟨z0,z1,z2,z3⟩,hq 0 (by omega),hq⟩
 have KT:H (∀ W,CB 118 #[ndV id f (V g n cap),jFy y] W st):=fun W=>by
  rw[ey,<-b0];exact vN id f _ (S p) _ d0 e0 _ _ f0 g0 W hf
 have hdr:=jD w;have yd:H (y 9=.bool (S p).d):=by
  show y 9=.bool (S p).d;have:=xE ey
  simp at this;exact this.2.2.2.2.2.2.2.2.2.1
 clear h hc ey b0 hf hp;go_enter func112,ntmps112
 go_wp2_with fail
 go_region_held3 (fun w'=>(w'.cell? (Q Hb 0 I)=M (Ao Ar id)/\w'.cell? (Q Hb 1 I)=M (Ao Ar f)/\w'.cell? (Q Hb 2 I)=M (V g n cap)/\w'.cell? (Q Hb 3 I)=M (Af (Q g (p*13) I)))/\w'.cell? (Q g (p*13) I)=M (y 0)/\∀ q,q<13->w'.cell? (Q g (p*13+q) I)=M (y q)) (exact KS _ (by assumption)) ((go_at_call 118;refine Ax (KT _) ?_;rintro e w7 ⟨rfl,a0⟩;have b7:=jC a0;clear a0))
 have r7:=KS _ b7;obtain⟨⟨_,_,_,z3⟩,_,hz⟩:=r7;have z9:=hz 9 (by omega);have c0:=yd.out;rw[c0] at z9;have KZ:H (Hr w7 B Hb id f g n cap p S sa m sc Y F1 F2/\Trn w w7 (fun x=>x=Hb\/F1 x\/F2 x)):=⟨KH.below b7,Trn.ofBelow _ b7⟩;clear b7;clear hz;by_cases hs:1<=st
 .have hd:(S p).d=Aw:=by rcases hn with h|h;omega;exact h
  rw[hd] at z9 c0;clear hn;go_wp2
  go_end0
  exact⟨rfl,KZ⟩
 .clear hn z9;go_wp2
  go_end0
  exact⟨rfl,KZ⟩
theorem jD3 (id f:Int) (B Hb g n cap p:Nat) (S:Nat->Sl) (sa:OA) (m sc:Nat) (Y:Nat->Sy) (F1 F2:Nat->Prop) (n3:Nat) (st:Int) (w:Ad) (h:Hr w B Hb id f g n cap p S sa m sc Y F1 F2) (hf:1<=f/\f<=3) (hp:p<n) (k0:stI f (S p).ze.length (S p).zr.length=st) (hs:1<=st) (e0:(S p).d=Av) (hm:m<=1048576) (hr:(S p).r.size<=1048576) (j0:(n3:Int)=3*f+1):Ak prog 112 #[Af Hb,(1:Int)] w fun e w'=>e=Ae (Ah #[])/\∃ c0 d0 a0 b0,Hr w' B Hb id f g n cap p (jAr S p) c0 (m+n3) d0 (syM Y m 2 id (S p).r) a0 b0/\Trn w w' (fun x=>x=Hb\/F1 x\/F2 x)/\(∀ x,a0 x->F1 x\/w.1.size<=x)/\∀ x,b0 x->F2 x\/w.1.size<=x:=by
 obtain⟨b1,o1,y,a6,o0,p0,c6,q0,r0,e1,hc,ey,_,_,_⟩:=vJ h.o.rd hp;cases e1;have KH:=hd h;have HP:=hd hp;have KS:H (∀ W,Ab w w W->(W.cell? Hb=M (Ao Ar id)/\W.cell? (Q Hb 1 I)=M (Ao Ar f)/\W.cell? (Q Hb 2 I)=M (V g n cap)/\W.cell? (Q Hb 3 I)=M (Af (Q g (p*13) I)))/\W.cell? (Q g (p*13) I)=M (y 0)/\∀ q,q<13->W.cell? (Q g (p*13+q) I)=M (y q)):=fun W hW=>by
  have r:=(KH.below hW).r;obtain⟨z0,z1,z2,z3⟩:=r.c4 0 1 2 3;simp at z0 z1 z2 z3;have hq:∀ q,q<13->W.cell? (Q g (p*13+q) I)=M (y q):=fun q hq=>by
   have h1:=hc q hq;rw[Bt] at h1;exact(hW.cell (A7 h1)).trans h1
  exact⟨⟨z0,z1,z2,z3⟩,hq 0 (by omega),hq⟩
 have KT:H (∀ W,CB 118 #[ndV id f (V g n cap),jFy y] W st):=fun W=>by
  rw[ey,<-k0];exact vN id f _ (S p) _ o0 p0 _ _ q0 r0 W hf
 have hdr:=jD w;have yd:H (y 9=.bool Av):=by
  show y 9=.bool Av;have:=xE ey
  simp at this;rw[<-e0];exact this.2.2.2.2.2.2.2.2.2.1
 have hd:=hd e0;clear e0;have n0:H (∀ W a0,Hr W B Hb id f g n cap p (jAr S p) sa m sc Y a0 F2->Ak prog 153 #[Af Hb,(2:Int)] W fun e w'=>e=Ae (Ah #[])/\∃ c0 d0 b0,Hr w' B Hb id f g n cap p (jAr S p) c0 (m+n3) d0 (syM Y m 2 id (S p).r) a0 b0/\Trn W w' (fun x=>x=Hb\/F2 x)/\∀ x,b0 x->F2 x\/W.1.size<=x):=fun W a0 hW=>by
  have er:(jAr S p p).r=(S p).r:=by unfold jAr;rw[A6 rfl]
  have:=zY 2 id f B Hb g n cap p (jAr S p) sa m sc Y a0 F2 n3 W hW hf hp hm (by rw[er];exact hr) j0
  rw[er] at this;exact this
 clear h hc ey k0 hf hp hr j0;go_enter func112,ntmps112
 go_wp2_with fail
 go_region_held3 (fun w'=>(w'.cell? (Q Hb 0 I)=M (Ao Ar id)/\w'.cell? (Q Hb 1 I)=M (Ao Ar f)/\w'.cell? (Q Hb 2 I)=M (V g n cap)/\w'.cell? (Q Hb 3 I)=M (Af (Q g (p*13) I)))/\w'.cell? (Q g (p*13) I)=M (y 0)/\∀ q,q<13->w'.cell? (Q g (p*13+q) I)=M (y q)) (exact KS _ (by assumption)) ((go_at_call 118;refine Ax (KT _) ?_;rintro e w7 ⟨rfl,h0⟩;have b7:=jC h0;clear h0))
 obtain⟨⟨_,_,_,z3⟩,_,hz⟩:=KS _ b7;have z9:=hz 9 (by omega);have s0:=yd.out;rw[s0] at z9;obtain⟨_,_,f9,_⟩:=(KH.below b7).slotc HP 9 (by omega);obtain⟨w8,g0⟩:=nmH (w7.setCell (Q g (p*13+9) I) Aw);obtain⟨a0,q8,q9,f0⟩:=(KH.below b7).flag HP 9 (by omega) Aw (jO3 S p);rw[<-g0.out] at q8 f0;have K8:H (Ab w w w7/\(∀ x,a0 x->F1 x\/w7.1.size<=x)/\Trn w7 w8 F1):=⟨b7,q9,f0⟩;have m0:H _:=n0 w8 a0 q8;clear hz b7 q8 q9 f0;go_wp2_with fail
 rw[<-g0.out];refine Ax m0.out ?_;rintro e w9 ⟨rfl,c0,d0,b0,h9,t9,i0⟩;have KZ:H (∃ c0 d0 a0 b0,Hr w9 B Hb id f g n cap p (jAr S p) c0 (m+n3) d0 (syM Y m 2 id (S p).r) a0 b0/\Trn w w9 (fun x=>x=Hb\/F1 x\/F2 x)/\(∀ x,a0 x->F1 x\/w.1.size<=x)/\∀ x,b0 x->F2 x\/w.1.size<=x):=by
  have s7:=K8.1.size;have s8:=K8.2.2.size;refine⟨c0,d0,a0,b0,h9,((Trn.ofBelow _ K8.1).trans (K8.2.2.mono (fun x k=>.inr (.inl k)))).trans (t9.mono (fun x k=>by rcases k with k|k;exact .inl k;exact .inr (.inr k))),fun x k=>?_,fun x k=>?_⟩
  .rcases K8.out.2.1 x k with k|k
   .exact .inl k
   .exact .inr (by omega)
  .rcases i0 x k with k|k
   .exact .inl k
   .exact .inr (by omega)
 clear h9 t9 i0;go_wp2
 go_end0
 exact⟨rfl,KZ⟩
theorem Ow.set1 {w:Ad} {B t sz g n cap:Nat} {D:Nat->Nat->Dt} {F:Nat->Prop} (h:Ow w B (.lst t sz n D) (V g n cap) F) {i q:Nat} (hi:i<n) (hq:q<sz) {d':Dt} {v':Aj} {H:Nat->Prop} (ho:Ow w B d' v' H) (hH:∀ x,H x->¬ F x):Ow (w.setCell (Q g (i*sz+q) I) v') B (.lst t sz n (fun i' q'=>if i'=i/\q'=q then d' else D i' q')) (V g n cap) (fun x=>F x\/H x):=by
 obtain⟨G,hs,c,e0,hr⟩:=Ow.mk h;have h1:=(Dh e0 (i*sz+q) v').1;rw[jF3 _ _ _ _ _ _ hi hq] at h1;have c0:¬ H g:=fun k=>hH g k (hs.head _ rfl)
 refine⟨_,cap,_,fun i' q' x=>if i'=i/\q'=q then H x else G i' q' x,rfl,h1,⟨fun x e=>?_,fun i' q' x a0 b0 k=>?_,fun i' q' x a0 b0 e k=>?_,fun i' q' i2 q2 x a0 b0 d0 f0 k k2=>?_⟩,fun i' q' a0 b0=>?_⟩
 .cases e;exact .inl (hs.head _ rfl)
 .by_cases e:i'=i/\q'=q
  .rw[A6 e] at k;exact .inr k
  .rw[A5 e] at k;exact .inl (hs.sub i' q' x a0 b0 k)
 .cases e;by_cases e:i'=i/\q'=q
  .rw[A6 e] at k;exact c0 k
  .rw[A5 e] at k;exact hs.apart i' q' _ a0 b0 rfl k
 .by_cases e:i'=i/\q'=q <;> by_cases e2:i2=i/\q2=q
  .exact⟨e.1.trans e2.1.symm,e.2.trans e2.2.symm⟩
  .rw[A6 e] at k;rw[A5 e2] at k2;exact Bo (hs.sub i2 q2 x d0 f0 k2) (hH x k)
  .rw[A5 e] at k;rw[A6 e2] at k2;exact Bo (hs.sub i' q' x a0 b0 k) (hH x k2)
  .rw[A5 e] at k;rw[A5 e2] at k2;exact hs.each i' q' i2 q2 x a0 b0 d0 f0 k k2
 .by_cases e:i'=i/\q'=q
  .simp only[e,and_self,C0];exact ho.far _ _ c0
  .simp only[e,Dj];exact(hr i' q' a0 b0).far _ _ (fun k=>hs.apart i' q' _ a0 b0 rfl k)
def jO2 (S:Nat->Sl) (p:Nat) (x:Pc) (i:Nat):Sl:=if i=p then {S p with p:=x} else S i
def xJ (S:Nat->Sl) (p:Nat) (x:Pc) (i:Nat):Sl:=if i=p then {S p with p:=x,h:=Aw,e:=Aw} else S i
theorem jKl {w:Ad} {B g n cap p:Nat} {S:Nat->Sl} {F:Nat->Prop} (x:Pc) {v6:Aj} {H:Nat->Prop} (h:Ow w B (qH n S) (V g n cap) F) (hp:p<n) (ho:Ow w B (txD x.m x.S) v6 H) (hH:∀ y,H y->¬ F y):Ow ((((((w.setCell (Q g (p*13+1) I) x.r).setCell (Q g (p*13+2) I) x.k).setCell (Q g (p*13+3) I) x.n).setCell (Q g (p*13+4) I) x.i).setCell (Q g (p*13+5) I) x.b).setCell (Q g (p*13+6) I) v6) B (qH n (jO2 S p x)) (V g n cap) (fun y=>F y\/H y):=by
 have hg:F g:=by obtain⟨_,_,_,_,e,_,hs,_⟩:=h;cases e;exact hs.head _ rfl
 have nH:¬ H g:=fun k=>hH g k hg
 have fs:∀ y,False->¬ F y:=fun _ k=>k.elim
 have h1:=(Ow.set1 h hp (show 1<13 by omega) (d':=.val x.r) (v':=Ag x.r) (H:=fun _=>False) rfl fs).mono (F':=F) (fun _ k=>k.elim id False.elim);have h2:=(Ow.set1 h1 hp (show 2<13 by omega) (d':=.val x.k) (v':=Ao Ar x.k) (H:=fun _=>False) rfl fs).mono (F':=F) (fun _ k=>k.elim id False.elim);have h3:=(Ow.set1 h2 hp (show 3<13 by omega) (d':=.val x.n) (v':=Ao Ar x.n) (H:=fun _=>False) rfl fs).mono (F':=F) (fun _ k=>k.elim id False.elim);have h4:=(Ow.set1 h3 hp (show 4<13 by omega) (d':=.val x.i) (v':=Ao Ar x.i) (H:=fun _=>False) rfl fs).mono (F':=F) (fun _ k=>k.elim id False.elim);have h5:=(Ow.set1 h4 hp (show 5<13 by omega) (d':=.val x.b) (v':=Ag x.b) (H:=fun _=>False) rfl fs).mono (F':=F) (fun _ k=>k.elim id False.elim);have h6:=Ow.set1 h5 hp (show 6<13 by omega) (((((ho.far (p*13+1) x.r nH).far (p*13+2) x.k nH).far (p*13+3) x.n nH).far (p*13+4) x.i nH).far (p*13+5) x.b nH) hH;refine h6.congr (fun i q _ hq=>?_);show _=slD (jO2 S p x i) q;unfold jO2;by_cases e:i=p
 .subst e;match q,hq with
  | 0,_|1,_|2,_|3,_|4,_|5,_|6,_|7,_|8,_|9,_|10,_|11,_|12,_=>simp[slD]
 .simp[e]
theorem jEr (id f:Int) (B Hb g n cap p:Nat) (S:Nat->Sl) (sa:OA) (m sc:Nat) (Y:Nat->Sy) (F1 F2:Nat->Prop) (y:Sy) (a9:OA) (c9:Nat) (w:Ad) (h:Hr w B Hb id f g n cap p S sa m sc Y F1 F2) (hf:1<=f/\f<=3) (hp:p<n) (hT:jL w a9 y.p.m y.p.S) (hm:y.p.m<=1048576) (hL:∀ i,i<y.p.m->(y.p.S i).size<=Au) (hn:(S p).e=Aw\/vU y.r id f y.p.r y.p.k y.p.n y.p.i y.p.b y.p.m y.p.S=Av):Ak prog 108 #[Af Hb,syV y (V a9 y.p.m c9)] w fun e w'=>e=Ae (Ah #[])/\Hr w' B Hb id f g n cap p S sa m sc Y F1 F2/\Trn w w' (fun x=>x=Hb\/F1 x\/F2 x):=by
 obtain⟨A,HA⟩:=nmH w.1.size;obtain⟨w0,a0⟩:=nmH (w.alloc (J (syC y (V a9 y.p.m c9)) 31));have b0:=bl1 a0;have RA:=jZ a0 HA;have KH:=hd (h.below b0);have c0:=hd b0;obtain⟨ve,ce,_,re⟩:=KH.slotc hp 8 (by omega);have ee:=re;rw[ee] at ce;by_cases he:(S p).e=Aw
 .rw[he] at ce;have y3:=KH.r.cell 3;simp at y3;have KZ:H (∀ W,Ab w0 w0 W->Hr W B Hb id f g n cap p S sa m sc Y F1 F2/\Trn w W (fun x=>x=Hb\/F1 x\/F2 x)):=fun W hW=>⟨KH.below hW,Trn.ofBelow _ (jA c0 hW)⟩
  have hdr:=jD w0;go_enter func108,ntmps108
  go_wp2_with fail
  rw[<-a0.out,<-HA.out];go_quiet (fail)
  all_goals
   go_wp2_with fail
   refine B7 (v:=Ah #[]) (results_none results108 _ _ _) rfl ⟨rfl,?_⟩;exact KZ _ ⟨rfl,rfl,rfl,Ay _,fun _ _=>rfl⟩
 .have g0:vU y.r id f y.p.r y.p.k y.p.n y.p.i y.p.b y.p.m y.p.S=Av:=by rcases hn with k|k;exact Bo k he;exact k
  have f0:(S p).e=Av:=by simpa using he
  rw[f0] at ce;have KO:H (∀ W,Ab w0 w0 W->CB 119 #[ndV id f (V g n cap),pcV y.p.r y.p.k y.p.n y.p.i y.p.b (V a9 y.p.m c9),y.r] W Av):=fun W hW=>by
   have:=jBz y.r id f (V g n cap) y.p.r y.p.k y.p.n y.p.i y.p.b a9 y.p.m c9 y.p.S W ((hT.below b0).below hW) hf hm hL
   rw[g0] at this;exact this
  have KS:H (∀ W,Ab w0 w0 W->(W.cell? Hb=M (Ao Ar id)/\W.cell? (Q Hb 1 I)=M (Ao Ar f)/\W.cell? (Q Hb 2 I)=M (V g n cap)/\W.cell? (Q Hb 3 I)=M (Af (Q g (p*13) I))/\W.cell? (Q g (p*13+8) I)=M (.bool Av))/\W.cell? (Q A 3 I)=M (Ag y.r)/\W.cell? (Q A 4 I)=M (Ag y.p.r)/\W.cell? (Q A 5 I)=M (Ao Ar y.p.k)/\W.cell? (Q A 6 I)=M (Ao Ar y.p.n)/\W.cell? (Q A 7 I)=M (Ao Ar y.p.i)/\W.cell? (Q A 8 I)=M (Ag y.p.b)/\W.cell? (Q A 9 I)=M (V a9 y.p.m c9)):=fun W hW=>by
   have r:=(KH.below hW).r;obtain⟨z0,z1,z2,z3⟩:=r.c4 0 1 2 3;have ra:=RA.below hW RA.lt;obtain⟨q3,q4,q5,q6,q7,q8⟩:=ra.c6 3 4 5 6 7 8;have q9:=ra.cell 9;simp at z0 z1 z2 z3 q3 q4 q5 q6 q7 q8 q9;exact⟨⟨z0,z1,z2,z3,(hW.cell (A7 ce)).trans ce⟩,q3,q4,q5,q6,q7,q8,q9⟩
  have KZ:H (∀ W,Ab w0 w0 W->Hr W B Hb id f g n cap p S sa m sc Y F1 F2/\Trn w W (fun x=>x=Hb\/F1 x\/F2 x)):=fun W hW=>⟨KH.below hW,Trn.ofBelow _ (jA c0 hW)⟩
  have hdr:=jD w0;go_enter func108,ntmps108
  go_wp2_with fail
  rw[<-a0.out,<-HA.out];go_region_held3 (fun w'=>(w'.cell? (Q Hb 0 I)=M (Ao Ar id)/\w'.cell? (Q Hb 1 I)=M (Ao Ar f)/\w'.cell? (Q Hb 2 I)=M (V g n cap)/\w'.cell? (Q Hb 3 I)=M (Af (Q g (p*13) I))/\w'.cell? (Q g (p*13+8) I)=M (.bool Av))/\w'.cell? (Q A 3 I)=M (Ag y.r)/\w'.cell? (Q A 4 I)=M (Ag y.p.r)/\w'.cell? (Q A 5 I)=M (Ao Ar y.p.k)/\w'.cell? (Q A 6 I)=M (Ao Ar y.p.n)/\w'.cell? (Q A 7 I)=M (Ao Ar y.p.i)/\w'.cell? (Q A 8 I)=M (Ag y.p.b)/\w'.cell? (Q A 9 I)=M (V a9 y.p.m c9)) (exact KS _ (by assumption)) ((go_at_call 119;refine Ax (KO _ hdr) ?_;rintro e w7 ⟨rfl,d0⟩;have b7:=jC d0;clear d0))
  all_goals
   have e0:H _:=KZ _ b7;go_wp2_with fail
   refine B7 (v:=Ah #[]) (results_none results108 _ _ _) rfl ⟨rfl,?_⟩;exact e0
theorem jEs (id f:Int) (B Hb g n cap p:Nat) (S:Nat->Sl) (sa:OA) (m sc:Nat) (Y:Nat->Sy) (F1 F2:Nat->Prop) (y:Sy) (a9:OA) (c9:Nat) (n3:Nat) (w:Ad) (h:Hr w B Hb id f g n cap p S sa m sc Y F1 F2) (hf:1<=f/\f<=3) (hp:p<n) (hT:jL w a9 y.p.m y.p.S) (hm:y.p.m<=1048576) (a1:y.p.r.size<=1048576) (u0:y.p.b.size<=1048576) (hL:∀ i,i<y.p.m->(y.p.S i).size<=1048576) (he:(S p).e=Av) (v0:vU y.r id f y.p.r y.p.k y.p.n y.p.i y.p.b y.p.m y.p.S=Aw) (x0:m<=1048576) (b1:(S p).r.size<=1048576) (y0:(n3:Int)=3*f+1):Ak prog 108 #[Af Hb,syV y (V a9 y.p.m c9)] w fun e w'=>e=Ae (Ah #[])/\∃ c0 d0 a0 b0,Hr w' B Hb id f g n cap p (xJ S p y.p) c0 (m+n3) d0 (syM Y m 1 id (S p).r) a0 b0/\Trn w w' (fun x=>x=Hb\/F1 x\/F2 x)/\(∀ x,a0 x->F1 x\/w.1.size<=x)/\∀ x,b0 x->F2 x\/w.1.size<=x:=by
 obtain⟨A,HA⟩:=nmH w.1.size;obtain⟨w0,k0⟩:=nmH (w.alloc (J (syC y (V a9 y.p.m c9)) 31));have g0:=bl1 k0;have RA:=jZ k0 HA;have KH:=hd (h.below g0);have n0:=hd g0;have HP:=hd hp;obtain⟨ve,ce,_,re⟩:=KH.slotc hp 8 (by omega);have ee:ve=.bool (S p).e:=re;rw[ee,he] at ce;clear ee re;have KO:H (∀ W,Ab w0 w0 W->CB 119 #[ndV id f (V (Q g 0 I) n cap),pcV y.p.r y.p.k y.p.n y.p.i y.p.b (V a9 y.p.m c9),y.r] W Aw):=fun W hW=>by
  have:=jBz y.r id f (V (Q g 0 I) n cap) y.p.r y.p.k y.p.n y.p.i y.p.b a9 y.p.m c9 y.p.S W ((hT.below g0).below hW) hf hm (fun i hi=>By (hL i hi) (by unfold Au;omega))
  rw[v0] at this;exact this
 have j1:H (∀ W,Ab w0 w0 W->Ak prog 121 #[pcV y.p.r y.p.k y.p.n y.p.i y.p.b (V a9 y.p.m c9)] W fun e w'=>∃ g,e=Ae (pcV y.p.r y.p.k y.p.n y.p.i y.p.b (V (Q g 0 I) y.p.m y.p.m))/\jI w' W.1.size (Q g 0 I) y.p.m y.p.m y.p.S/\Ab W.1.size W w'):=fun W hW=>JT _ _ _ _ _ a9 _ c9 _ W ((hT.below g0).below hW) hm a1 u0 hL
 have k1:H (∀ W a0,Hr W B Hb id f g n cap p (xJ S p y.p) sa m sc Y a0 F2->Ak prog 153 #[Af Hb,(1:Int)] W fun e w'=>e=Ae (Ah #[])/\∃ c0 d0 b0,Hr w' B Hb id f g n cap p (xJ S p y.p) c0 (m+n3) d0 (syM Y m 1 id (S p).r) a0 b0/\Trn W w' (fun x=>x=Hb\/F2 x)/\∀ x,b0 x->F2 x\/W.1.size<=x):=fun W a0 hW=>by
  have er:(xJ S p y.p p).r=(S p).r:=by unfold xJ;simp
  have:=zY 1 id f B Hb g n cap p (xJ S p y.p) sa m sc Y a0 F2 n3 W hW hf hp x0 (by rw[er];exact b1) y0
  rw[er] at this;exact this
 have KS:H (∀ W,Ab w0 w0 W->(W.cell? Hb=M (Ao Ar id)/\W.cell? (Q Hb 1 I)=M (Ao Ar f)/\W.cell? (Q Hb 2 I)=M (V (Q g 0 I) n cap)/\W.cell? (Q Hb 3 I)=M (Af (Q g (p*13) I))/\W.cell? (Q g (p*13+8) I)=M (.bool Av))/\W.cell? (Q A 3 I)=M (Ag y.r)/\W.cell? (Q A 4 I)=M (Ag y.p.r)/\W.cell? (Q A 5 I)=M (Ao Ar y.p.k)/\W.cell? (Q A 6 I)=M (Ao Ar y.p.n)/\W.cell? (Q A 7 I)=M (Ao Ar y.p.i)/\W.cell? (Q A 8 I)=M (Ag y.p.b)/\W.cell? (Q A 9 I)=M (V a9 y.p.m c9)):=fun W hW=>by
  have r:=(KH.below hW).r;obtain⟨z0,z1,z2,z3⟩:=r.c4 0 1 2 3;have ra:=RA.below hW RA.lt;obtain⟨q3,q4,q5,q6,q7,q8⟩:=ra.c6 3 4 5 6 7 8;have q9:=ra.cell 9;simp at z0 z1 z2 z3 q3 q4 q5 q6 q7 q8 q9;exact⟨⟨z0,z1,z2,z3,(hW.cell (A7 ce)).trans ce⟩,q3,q4,q5,q6,q7,q8,q9⟩
 have hdr:=jD w0;clear h g0 hT hm hL he v0 a1 u0 x0 b1 y0;go_enter func108,ntmps108
 go_wp2_with fail
 rw[<-k0.out,<-HA.out];go_region_held3 (fun w'=>(w'.cell? (Q Hb 0 I)=M (Ao Ar id)/\w'.cell? (Q Hb 1 I)=M (Ao Ar f)/\w'.cell? (Q Hb 2 I)=M (V (Q g 0 I) n cap)/\w'.cell? (Q Hb 3 I)=M (Af (Q g (p*13) I))/\w'.cell? (Q g (p*13+8) I)=M (.bool Av))/\w'.cell? (Q A 3 I)=M (Ag y.r)/\w'.cell? (Q A 4 I)=M (Ag y.p.r)/\w'.cell? (Q A 5 I)=M (Ao Ar y.p.k)/\w'.cell? (Q A 6 I)=M (Ao Ar y.p.n)/\w'.cell? (Q A 7 I)=M (Ao Ar y.p.i)/\w'.cell? (Q A 8 I)=M (Ag y.p.b)/\w'.cell? (Q A 9 I)=M (V a9 y.p.m c9)) (exact KS _ (by assumption)) ((go_at_call 119;refine Ax (KO _ hdr) ?_;rintro e w7 ⟨rfl,o0⟩;have b7:=jC o0;clear o0))
 have K7:H (Hr w7 B Hb id f g n cap p S sa m sc Y F1 F2/\Ab w0 w0 w7):=⟨KH.below b7,b7⟩;clear b7 ce;go_upto_region 2 with fail
 go_cut [] from 23 to 31 (fun wx=>H (∃ a0,Hr wx B Hb id f g n cap p (jO2 S p y.p) sa m sc Y a0 F2/\Trn w0 wx F1/\∀ x,a0 x->F1 x\/w0.1.size<=x))
 case first=>
  obtain⟨⟨_,_,_,z3,_⟩,_,z4,z5,z6,z7,z8,z9⟩:=KS _ K7.2;have m1:=jD w7;have g1:H _:=j1 w7.drew (jA K7.2 m1);have KF:H (∀ W,Ab w7 w7 W->(W.cell? (Q Hb 3 I)=M (Af (Q g (p*13) I))/\(∃ v,W.cell? (Q g (p*13+1) I)=M v)/\(∃ v,W.cell? (Q g (p*13+2) I)=M v)/\(∃ v,W.cell? (Q g (p*13+3) I)=M v)/\(∃ v,W.cell? (Q g (p*13+4) I)=M v)/\(∃ v,W.cell? (Q g (p*13+5) I)=M v)/\(∃ v,W.cell? (Q g (p*13+6) I)=M v))/\∀ q,q<13->W.frozen? (Q g (p*13+q) I)=Av):=fun W hW=>by
   have hh:=K7.1.below hW;have r3:=hh.r.cell 3;simp at r3;have cq:∀ q,q<13->∃ v,W.cell? (Q g (p*13+q) I)=M v:=fun q hq=>by obtain⟨v,c,_,_⟩:=hh.slotc HP q hq;exact⟨v,c⟩
   have fq:∀ q,q<13->W.frozen? (Q g (p*13+q) I)=Av:=fun q hq=>by obtain⟨v,_,c,_⟩:=hh.slotc HP q hq;exact c
   exact⟨⟨r3,cq 1 (by omega),cq 2 (by omega),cq 3 (by omega),cq 4 (by omega),cq 5 (by omega),cq 6 (by omega)⟩,fq⟩
  go_region_with ((go_at_call 121;refine Ax g1.out ?_;rintro e w8 ⟨g6,rfl,O8,p0⟩;have b8:=jC p0;clear p0;obtain⟨⟨t3,⟨v1,t1⟩,⟨v2,t2⟩,⟨v3,t33⟩,⟨v4,t4⟩,⟨v5,t5⟩,⟨v6,t6⟩⟩,fz⟩:=KF _ b8;have f1:=fz 1 (by omega);have f2:=fz 2 (by omega);have f3:=fz 3 (by omega);have f4:=fz 4 (by omega);have f5:=fz 5 (by omega);have f6:=fz 6 (by omega);have K8:H (jI w8 w7 g6 y.p.m y.p.m y.p.S/\Ab w7 w7 w8):=⟨O8,b8⟩;clear fz O8 b8))
  all_goals
   go_wp2_with fail
   go_meet
   have n1:=K7.2.size;have o1:=K8.2.size;have h8:=K7.1.below K8.2;have o6:Ow w8 B (txD y.p.m y.p.S) (V g6 y.p.m y.p.m) (fun x=>x=g6):=(xQ K8.1 (fun x e=>by cases e;rfl)).base K7.out.1.b.2;have l6:=A0 K8.1 g6 rfl;have o8:=jKl y.p h8.o HP o6 (fun x e k=>by have:=K7.1.l1 x k;omega);obtain⟨G,c1,_⟩:=Ow.mk h8.o;have e0:F1 g:=c1.head _ rfl;have t8:Trn w8 _ F1:=(((((Trn.set w8 (p*13+1) y.p.r e0).trans (Trn.set _ (p*13+2) y.p.k e0)).trans (Trn.set _ (p*13+3) y.p.n e0)).trans (Trn.set _ (p*13+4) y.p.i e0)).trans (Trn.set _ (p*13+5) y.p.b e0)).trans (Trn.set _ (p*13+6) (V g6 y.p.m y.p.m) e0);obtain⟨a0,hh,hF⟩:=K7.1.slots ((Trn.ofBelow _ K8.2).trans t8) o8 (fun x k=>by
    rcases k with k|k
    .exact .inl k
    .exact .inr (by rw[k];exact l6.1))
   refine⟨a0,hh,((Trn.ofBelow _ K7.2).trans (Trn.ofBelow _ K8.2)).trans t8,fun x k=>?_⟩;rcases hF x k with k|k
   .exact .inl k
   .exact .inr (by omega)
 obtain⟨f0,ha,ta,q0⟩:=hcut.out;have KA:H (Hr wc B Hb id f g n cap p (jO2 S p y.p) sa m sc Y f0 F2/\Trn w0 wc F1/\∀ x,f0 x->F1 x\/w0.1.size<=x):=⟨ha,ta,q0⟩;clear hcut ha ta q0;obtain⟨wb,e1⟩:∃ x,x=wc:=⟨wc,rfl⟩;subst e1;go_upto_region 3 with fail
 go_cut [] from 32 to 43 (fun wx=>H (∃ a0,Hr wx B Hb id f g n cap p (xJ S p y.p) sa m sc Y a0 F2/\Trn w0 wx F1/\∀ x,a0 x->F1 x\/w0.1.size<=x))
 case first=>
  have z3:=KA.1.r.cell 3;simp at z3;obtain⟨v7,c7,f7,_⟩:=KA.1.slotc HP 7 (by omega);obtain⟨v8,c8,f8,_⟩:=KA.1.slotc HP 8 (by omega);obtain⟨h0,q1,q2,q3⟩:=KA.1.flag (S':=fun i=>if i=p then {jO2 S p y.p p with h:=Aw} else jO2 S p y.p i) HP 7 (by omega) Aw (fun i q' m0=>by
   by_cases e:i=p
   .subst e;match q',m0 with
    | 0,_|1,_|2,_|3,_|4,_|5,_|6,_|7,_|8,_|9,_|10,_|11,_|12,_=>simp[slD]
   .simp[e])
  obtain⟨i0,r1,r2,r3⟩:=q1.flag (S':=xJ S p y.p) HP 8 (by omega) Aw (fun i q' m0=>by
   unfold xJ jO2;by_cases e:i=p
   .subst e;match q',m0 with
    | 0,_|1,_|2,_|3,_|4,_|5,_|6,_|7,_|8,_|9,_|10,_|11,_|12,_=>simp[slD]
   .simp[e])
  have KD:H (Hr ((wb.setCell (Q g (p*13+7) I) Aw).setCell (Q g (p*13+8) I) Aw) B Hb id f g n cap p (xJ S p y.p) sa m sc Y i0 F2/\Trn wb ((wb.setCell (Q g (p*13+7) I) Aw).setCell (Q g (p*13+8) I) Aw) (fun x=>f0 x\/h0 x)/\(∀ x,h0 x->f0 x\/wb.1.size<=x)/\∀ x,i0 x->h0 x\/wb.1.size<=x):=⟨r1,(q3.mono (fun _ k=>.inl k)).trans (r3.mono (fun _ k=>.inr k)),q2,fun x k=>by rcases r2 x k with k|k;exact .inl k;exact .inr (by simpa using k)⟩;have KE:H (∀ W,Ab (wb.setCell (Q g (p*13+7) I) Aw).1.size ((wb.setCell (Q g (p*13+7) I) Aw).setCell (Q g (p*13+8) I) Aw) W->∃ a0,Hr W B Hb id f g n cap p (xJ S p y.p) sa m sc Y a0 F2/\Trn w0 W F1/\∀ x,a0 x->F1 x\/w0.1.size<=x):=fun W hW=>by
   have hs:w0.1.size<=wb.1.size:=KA.2.1.size;have hb:Ab ((wb.setCell (Q g (p*13+7) I) Aw).setCell (Q g (p*13+8) I) Aw).1.size ((wb.setCell (Q g (p*13+7) I) Aw).setCell (Q g (p*13+8) I) Aw) W:=by
    have e:((wb.setCell (Q g (p*13+7) I) Aw).setCell (Q g (p*13+8) I) Aw).1.size=(wb.setCell (Q g (p*13+7) I) Aw).1.size:=by simp
    rw[e];exact hW
   have tw:Trn w0 ((wb.setCell (Q g (p*13+7) I) Aw).setCell (Q g (p*13+8) I) Aw) F1:=by
    have t:=KD.2.1;refine⟨t.os.trans KA.2.1.os,t.tape.trans KA.2.1.tape,t.output.trans KA.2.1.output,By KA.2.1.size t.size,fun j hj hn=>?_⟩;refine(t.block j (by omega) (fun k=>?_)).trans (KA.out.2.1.block j hj hn);have ha:¬ f0 j:=fun k=>by rcases KA.out.2.2 j k with k|k;exact hn k;omega
    rcases k with k|k
    .exact ha k
    .rcases KD.out.2.2.1 j k with k|k
     .exact ha k
     .omega
   refine⟨i0,KD.1.below hb,tw.trans (Trn.ofBelow _ hb),fun x k=>?_⟩;rcases KD.out.2.2.2 x k with k|k
   .rcases KD.out.2.2.1 x k with k|k
    .exact KA.2.2 x k
    .exact .inr (by omega)
   .exact .inr (by omega)
  clear q1 q2 q3 r1 r2 r3;go_region
  all_goals
   go_wp2_with fail
   go_meet
   exact KE _ ⟨rfl,rfl,rfl,by simp,fun _ _=>rfl⟩
 obtain⟨j0,hd,td,r0⟩:=hcut.out;have KD:H (Trn w0 wc F1/\∀ x,j0 x->F1 x\/w0.1.size<=x):=⟨td,r0⟩;have i1:H _:=k1 wc j0 hd;clear hcut hd td r0;go_wp2_with fail
 refine Ax i1.out ?_;rintro e wz ⟨rfl,c0,d0,b0,hz,tz,t0⟩;have KZ:H (∃ c0 d0 a0 b0,Hr wz B Hb id f g n cap p (xJ S p y.p) c0 (m+n3) d0 (syM Y m 1 id (S p).r) a0 b0/\Trn w wz (fun x=>x=Hb\/F1 x\/F2 x)/\(∀ x,a0 x->F1 x\/w.1.size<=x)/\∀ x,b0 x->F2 x\/w.1.size<=x):=by
  have s0:=n0.size;have s1:=KD.1.size;refine⟨c0,d0,j0,b0,hz,((Trn.ofBelow _ n0).trans (KD.1.mono (fun x k=>.inr (.inl k)))).trans (tz.mono (fun x k=>by rcases k with k|k;exact .inl k;exact .inr (.inr k))),fun x k=>?_,fun x k=>?_⟩
  .rcases KD.out.2 x k with k|k
   .exact .inl k
   .exact .inr (by omega)
  .rcases t0 x k with k|k
   .exact .inl k
   .exact .inr (by omega)
 clear hz tz t0;go_wp2
 go_end0
 exact⟨rfl,KZ⟩
theorem jD4 (id f:Int) (B Hb g n cap p:Nat) (S:Nat->Sl) (sa:OA) (m sc:Nat) (Y:Nat->Sy) (F1 F2:Nat->Prop) (st:Int) (w:Ad) (h:Hr w B Hb id f g n cap p S sa m sc Y F1 F2) (hf:1<=f/\f<=3) (hp:p<n) (k0:stI f (S p).ze.length (S p).zr.length=st) (hn:st<1\/(S p).d=Aw):Ak prog 112 #[Af Hb,(2:Int)] w fun e w'=>e=Ae (Ah #[])/\∃ a0,Hr w' B Hb id f g n cap p (XY S p ((S p).o || decide (2<=st))) sa m sc Y a0 F2/\Trn w w' (fun x=>x=Hb\/F1 x\/F2 x)/\∀ x,a0 x->F1 x\/w.1.size<=x:=by
 obtain⟨b1,o1,y,a6,p0,q0,c6,r0,s0,e1,hc,ey,_,_,_⟩:=vJ h.o.rd hp;cases e1;have KH:=hd h;have HP:=hd hp;have KS:H (∀ W,Ab w w W->(W.cell? Hb=M (Ao Ar id)/\W.cell? (Q Hb 1 I)=M (Ao Ar f)/\W.cell? (Q Hb 2 I)=M (V g n cap)/\W.cell? (Q Hb 3 I)=M (Af (Q g (p*13) I)))/\W.cell? (Q g (p*13) I)=M (y 0)/\∀ q,q<13->W.cell? (Q g (p*13+q) I)=M (y q)):=fun W hW=>by
  have r:=(KH.below hW).r;obtain⟨z0,z1,z2,z3⟩:=r.c4 0 1 2 3;simp at z0 z1 z2 z3;have hq:∀ q,q<13->W.cell? (Q g (p*13+q) I)=M (y q):=fun q hq=>by
   have h1:=hc q hq;rw[Bt] at h1;exact(hW.cell (A7 h1)).trans h1
  exact⟨⟨z0,z1,z2,z3⟩,hq 0 (by omega),hq⟩
 have KT:H (∀ W,CB 118 #[ndV id f (V g n cap),jFy y] W st):=fun W=>by
  rw[ey,<-k0];exact vN id f _ (S p) _ p0 q0 _ _ r0 s0 W hf
 have hdr:=jD w;have yd:H (y 9=.bool (S p).d):=by
  show y 9=.bool (S p).d;have:=xE ey
  simp at this;exact this.2.2.2.2.2.2.2.2.2.1
 have yo:H (y 10=.bool (S p).o):=by
  show y 10=.bool (S p).o;have:=xE ey
  simp at this;exact this.2.2.2.2.2.2.2.2.2.2.1
 obtain⟨bo,h0⟩:=nnH ((S p).o);obtain⟨bn,g0⟩:=nnH (((S p).o || decide (2<=st)));rw[g0.out];clear h hc ey k0 hf hp;go_enter func112,ntmps112
 go_wp2_with fail
 go_region_held3 (fun w'=>(w'.cell? (Q Hb 0 I)=M (Ao Ar id)/\w'.cell? (Q Hb 1 I)=M (Ao Ar f)/\w'.cell? (Q Hb 2 I)=M (V g n cap)/\w'.cell? (Q Hb 3 I)=M (Af (Q g (p*13) I)))/\w'.cell? (Q g (p*13) I)=M (y 0)/\∀ q,q<13->w'.cell? (Q g (p*13+q) I)=M (y q)) (exact KS _ (by assumption)) ((go_at_call 118;refine Ax (KT _) ?_;rintro e w7 ⟨rfl,i0⟩;have b7:=jC i0;clear i0))
 obtain⟨⟨_,_,_,z3⟩,_,hz⟩:=KS _ b7;have d0:=hz 10 (by omega);have t0:=yd.out;have o0:=yo.out;rw[h0.out] at o0;rw[o0] at d0;obtain⟨_,_,f0,_⟩:=(KH.below b7).slotc HP 10 (by omega);obtain⟨w8,b0⟩:=nmH ((w7.setCell (Q g (p*13+10) I) bn).drew);obtain⟨a0,n0,q9,e0⟩:=(KH.below b7).flag HP 10 (by omega) bn (jO1 S p bn);have q8:Hr w8 B Hb id f g n cap p (XY S p bn) sa m sc Y a0 F2:=by rw[b0.out];exact n0.below (jD _)
 have m0:Trn w7 w8 F1:=by rw[b0.out];exact e0.trans (Trn.drew _ _)
 have K8:H (Ab w w w7/\(∀ x,a0 x->F1 x\/w7.1.size<=x)/\Trn w7 w8 F1/\Hr w8 B Hb id f g n cap p (XY S p bn) sa m sc Y a0 F2):=⟨b7,q9,m0,q8⟩;have x3:=q8.r.cell 3;simp at x3;obtain⟨v9,x9,g9,r9⟩:=q8.slotc HP 9 (by omega);have e9:v9=.bool (S p).d:=by
  have e:(XY S p bn p).d=(S p).d:=by unfold XY;rw[A6 rfl]
  have:=r9
  simp only[slD,Rd,e] at this;exact this
 rw[e9] at x9;clear hz b7 q8 q9 m0 n0 e0 r9 e9;have KZ:H (∃ a0,Hr w8 B Hb id f g n cap p (XY S p bn) sa m sc Y a0 F2/\Trn w w8 (fun x=>x=Hb\/F1 x\/F2 x)/\∀ x,a0 x->F1 x\/w.1.size<=x):=by
  have s7:=K8.1.size;refine⟨a0,K8.2.2.2,(Trn.ofBelow _ K8.1).trans (K8.2.2.1.mono (fun x k=>.inr (.inl k))),fun x k=>?_⟩;rcases K8.out.2.1 x k with k|k
  .exact .inl k
  .exact .inr (by omega)
 have j0:H ((bo || decide (2<=st))=bn):=by rw[<-h0.out];exact g0
 cases bo with
 | true=>
  obtain rfl:bn=Aw:=by rw[<-j0.out];rfl
  go_upto_region 4 with fail
  go_region
  all_goals
   go_upto_region 5 with fail
   rw[<-b0.out];clear z3 d0 f0;by_cases hs:1<=st
   .have hd:(S p).d=Aw:=by rcases hn with h|h;omega;exact h
    rw[hd] at x9;clear hn;go_wp2
    go_end0
    exact⟨rfl,KZ⟩
   .clear hn x9;go_wp2
    go_end0
    exact⟨rfl,KZ⟩
 | false=>
  have c0:decide (2<=st)=bn:=by rw[<-j0.out];simp
  by_cases h2:2<=st
  .obtain rfl:bn=Aw:=by rw[<-c0];exact Bf h2
   clear c0;go_upto_region 4 with fail
   go_region
   all_goals
    go_upto_region 5 with fail
    rw[<-b0.out];clear z3 d0 f0;by_cases hs:1<=st
    .have hd:(S p).d=Aw:=by rcases hn with h|h;omega;exact h
     rw[hd] at x9;clear hn;go_wp2
     go_end0
     exact⟨rfl,KZ⟩
    .clear hn x9;go_wp2
     go_end0
     exact⟨rfl,KZ⟩
  .obtain rfl:bn=Av:=by rw[<-c0];exact Bg h2
   clear c0;go_upto_region 4 with fail
   go_region
   all_goals
    go_upto_region 5 with fail
    rw[<-b0.out];clear z3 d0 f0;by_cases hs:1<=st
    .have hd:(S p).d=Aw:=by rcases hn with h|h;omega;exact h
     rw[hd] at x9;clear hn;go_wp2
     go_end0
     exact⟨rfl,KZ⟩
    .clear hn x9;go_wp2
     go_end0
     exact⟨rfl,KZ⟩
theorem jD5 (id f:Int) (B Hb g n cap p:Nat) (S:Nat->Sl) (sa:OA) (m sc:Nat) (Y:Nat->Sy) (F1 F2:Nat->Prop) (n3:Nat) (st:Int) (w:Ad) (h:Hr w B Hb id f g n cap p S sa m sc Y F1 F2) (hf:1<=f/\f<=3) (hp:p<n) (w0:stI f (S p).ze.length (S p).zr.length=st) (hs:1<=st) (u0:(S p).d=Av) (hm:m<=1048576) (hr:(S p).r.size<=1048576) (v0:(n3:Int)=3*f+1):Ak prog 112 #[Af Hb,(2:Int)] w fun e w'=>e=Ae (Ah #[])/\∃ c0 d0 b0 a0,Hr w' B Hb id f g n cap p (jAr (XY S p ((S p).o || decide (2<=st))) p) c0 (m+n3) d0 (syM Y m 2 id (S p).r) b0 a0/\Trn w w' (fun x=>x=Hb\/F1 x\/F2 x)/\(∀ x,b0 x->F1 x\/w.1.size<=x)/\∀ x,a0 x->F2 x\/w.1.size<=x:=by
 obtain⟨b1,o1,y,a6,c1,f1,c6,g1,i1,e1,hc,ey,_,_,_⟩:=vJ h.o.rd hp;cases e1;have KH:=hd h;have HP:=hd hp;have KS:H (∀ W,Ab w w W->(W.cell? Hb=M (Ao Ar id)/\W.cell? (Q Hb 1 I)=M (Ao Ar f)/\W.cell? (Q Hb 2 I)=M (V g n cap)/\W.cell? (Q Hb 3 I)=M (Af (Q g (p*13) I)))/\W.cell? (Q g (p*13) I)=M (y 0)/\∀ q,q<13->W.cell? (Q g (p*13+q) I)=M (y q)):=fun W hW=>by
  have r:=(KH.below hW).r;obtain⟨z0,z1,z2,z3⟩:=r.c4 0 1 2 3;simp at z0 z1 z2 z3;have hq:∀ q,q<13->W.cell? (Q g (p*13+q) I)=M (y q):=fun q hq=>by
   have h1:=hc q hq;rw[Bt] at h1;exact(hW.cell (A7 h1)).trans h1
  exact⟨⟨z0,z1,z2,z3⟩,hq 0 (by omega),hq⟩
 have KT:H (∀ W,CB 118 #[ndV id f (V g n cap),jFy y] W st):=fun W=>by
  rw[ey,<-w0];exact vN id f _ (S p) _ c1 f1 _ _ g1 i1 W hf
 have hdr:=jD w;have yd:H (y 9=.bool (S p).d):=by
  show y 9=.bool (S p).d;have:=xE ey
  simp at this;exact this.2.2.2.2.2.2.2.2.2.1
 have yo:H (y 10=.bool (S p).o):=by
  show y 10=.bool (S p).o;have:=xE ey
  simp at this;exact this.2.2.2.2.2.2.2.2.2.2.1
 obtain⟨bo,r0⟩:=nnH ((S p).o);obtain⟨bn,q0⟩:=nnH (((S p).o || decide (2<=st)));rw[q0.out];have hd:=hd u0;clear u0;have a1:H (∀ W b0,Hr W B Hb id f g n cap p (jAr (XY S p bn) p) sa m sc Y b0 F2->Ak prog 153 #[Af Hb,(2:Int)] W fun e w'=>e=Ae (Ah #[])/\∃ c0 d0 a0,Hr w' B Hb id f g n cap p (jAr (XY S p bn) p) c0 (m+n3) d0 (syM Y m 2 id (S p).r) b0 a0/\Trn W w' (fun x=>x=Hb\/F2 x)/\∀ x,a0 x->F2 x\/W.1.size<=x):=fun W b0 hW=>by
  have er:(jAr (XY S p bn) p p).r=(S p).r:=by unfold jAr XY;simp
  have:=zY 2 id f B Hb g n cap p (jAr (XY S p bn) p) sa m sc Y b0 F2 n3 W hW hf hp hm (by rw[er];exact hr) v0
  rw[er] at this;exact this
 clear h hc ey w0 hf hp hr v0;go_enter func112,ntmps112
 go_wp2_with fail
 go_region_held3 (fun w'=>(w'.cell? (Q Hb 0 I)=M (Ao Ar id)/\w'.cell? (Q Hb 1 I)=M (Ao Ar f)/\w'.cell? (Q Hb 2 I)=M (V g n cap)/\w'.cell? (Q Hb 3 I)=M (Af (Q g (p*13) I)))/\w'.cell? (Q g (p*13) I)=M (y 0)/\∀ q,q<13->w'.cell? (Q g (p*13+q) I)=M (y q)) (exact KS _ (by assumption)) ((go_at_call 118;refine Ax (KT _) ?_;rintro e w7 ⟨rfl,s0⟩;have b7:=jC s0;clear s0))
 obtain⟨⟨_,_,_,z3⟩,_,hz⟩:=KS _ b7;have m0:=hz 10 (by omega);have k1:=yd.out;have y0:=yo.out;rw[r0.out] at y0;rw[y0] at m0;obtain⟨_,_,p0,_⟩:=(KH.below b7).slotc HP 10 (by omega);obtain⟨w8,g0⟩:=nmH ((w7.setCell (Q g (p*13+10) I) bn).drew);obtain⟨b0,x0,q9,n0⟩:=(KH.below b7).flag HP 10 (by omega) bn (jO1 S p bn);have q8:Hr w8 B Hb id f g n cap p (XY S p bn) sa m sc Y b0 F2:=by rw[g0.out];exact x0.below (jD _)
 have f0:Trn w7 w8 F1:=by rw[g0.out];exact n0.trans (Trn.drew _ _)
 have K8:H (Ab w w w7/\(∀ x,b0 x->F1 x\/w7.1.size<=x)/\Trn w7 w8 F1/\Hr w8 B Hb id f g n cap p (XY S p bn) sa m sc Y b0 F2):=⟨b7,q9,f0,q8⟩;have x3:=q8.r.cell 3;simp at x3;obtain⟨v9,x9,g9,r9⟩:=q8.slotc HP 9 (by omega);have e9:v9=.bool (S p).d:=by
  have e:(XY S p bn p).d=(S p).d:=by unfold XY;rw[A6 rfl]
  have:=r9
  simp only[slD,Rd,e] at this;exact this
 rw[e9,hd.out] at x9;clear hz b7 q8 q9 f0 x0 n0 r9 e9;obtain⟨w9,j0⟩:=nmH (w8.setCell (Q g (p*13+9) I) Aw);obtain⟨i0,q8,q9,f0⟩:=K8.2.2.2.flag HP 9 (by omega) Aw (jO3 (XY S p bn) p);rw[<-j0.out] at q8 f0;have K9:H ((∀ x,i0 x->b0 x\/w8.1.size<=x)/\Trn w8 w9 b0):=⟨q9,f0⟩;have o0:H _:=a1 w9 i0 q8;have h0:H (∀ wz c0 d0 a0,Hr wz B Hb id f g n cap p (jAr (XY S p bn) p) c0 (m+n3) d0 (syM Y m 2 id (S p).r) i0 a0->Trn w9 wz (fun x=>x=Hb\/F2 x)->(∀ x,a0 x->F2 x\/w9.1.size<=x)->∃ c0 d0 b0 a0,Hr wz B Hb id f g n cap p (jAr (XY S p bn) p) c0 (m+n3) d0 (syM Y m 2 id (S p).r) b0 a0/\Trn w wz (fun x=>x=Hb\/F1 x\/F2 x)/\(∀ x,b0 x->F1 x\/w.1.size<=x)/\∀ x,a0 x->F2 x\/w.1.size<=x):=fun wz c0 d0 a0 hz tz e0=>by
  have s7:=K8.1.size;have s8:=K8.2.2.1.size;have s9:=K9.2.size;have j1:Trn w w9 (fun x=>x=Hb\/F1 x\/F2 x):=by
   have t8:Trn w w8 (fun x=>x=Hb\/F1 x\/F2 x):=(Trn.ofBelow _ K8.1).trans (K8.2.2.1.mono (fun x k=>.inr (.inl k)));refine⟨K9.2.os.trans t8.os,K9.2.tape.trans t8.tape,K9.2.output.trans t8.output,By t8.size K9.2.size,fun j hj hn=>?_⟩;refine(K9.2.block j (Bu hj t8.size) (fun k=>?_)).trans (t8.block j hj hn);rcases K8.out.2.1 j k with k|k
   .exact hn (.inr (.inl k))
   .omega
  refine⟨c0,d0,i0,a0,hz,j1.trans (tz.mono (fun x k=>by rcases k with k|k;exact .inl k;exact .inr (.inr k))),fun x k=>?_,fun x k=>?_⟩
  .rcases K9.out.1 x k with k|k
   .rcases K8.out.2.1 x k with k|k
    .exact .inl k
    .exact .inr (by omega)
   .exact .inr (by omega)
  .rcases e0 x k with k|k
   .exact .inl k
   .exact .inr (by omega)
 clear q8 q9 f0;have t0:H ((bo || decide (2<=st))=bn):=by rw[<-r0.out];exact q0
 cases bo with
 | true=>
  obtain rfl:bn=Aw:=by rw[<-t0.out];rfl
  go_upto_region 4 with fail
  go_region
  all_goals
   go_upto_region 5 with fail
   rw[<-g0.out];clear z3 m0 p0;go_wp2_with fail
   rw[<-j0.out];refine Ax o0.out ?_;rintro e wz ⟨rfl,c0,d0,a0,hz,tz,e0⟩;have KZ:H _:=h0 wz c0 d0 a0 hz tz e0;clear hz tz e0;go_wp2
   go_end0
   exact⟨rfl,KZ⟩
 | false=>
  have k0:decide (2<=st)=bn:=by rw[<-t0.out];simp
  by_cases h2:2<=st
  .obtain rfl:bn=Aw:=by rw[<-k0];exact Bf h2
   clear k0;go_upto_region 4 with fail
   go_region
   all_goals
    go_upto_region 5 with fail
    rw[<-g0.out];clear z3 m0 p0;go_wp2_with fail
    rw[<-j0.out];refine Ax o0.out ?_;rintro e wz ⟨rfl,c0,d0,a0,hz,tz,e0⟩;have KZ:H _:=h0 wz c0 d0 a0 hz tz e0;clear hz tz e0;go_wp2
    go_end0
    exact⟨rfl,KZ⟩
  .obtain rfl:bn=Av:=by rw[<-k0];exact Bg h2
   clear k0;go_upto_region 4 with fail
   go_region
   all_goals
    go_upto_region 5 with fail
    rw[<-g0.out];clear z3 m0 p0;go_wp2_with fail
    rw[<-j0.out];refine Ax o0.out ?_;rintro e wz ⟨rfl,c0,d0,a0,hz,tz,e0⟩;have KZ:H _:=h0 wz c0 d0 a0 hz tz e0;clear hz tz e0;go_wp2
    go_end0
    exact⟨rfl,KZ⟩
end Go.Proofs.YtcaejlalnjnifaaGreat
