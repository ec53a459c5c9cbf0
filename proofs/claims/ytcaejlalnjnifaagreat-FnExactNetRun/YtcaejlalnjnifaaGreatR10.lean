import Derived.Test.YtcaejlalnjnifaaGreatR7
import Derived.Test.YtcaejlalnjnifaaGreatR8
import Derived.Sort.LoopGhostIn
import Derived.Lib.Walk
import Derived.Lib.BufferWrite
import Derived.Lib.Hide
set_option maxHeartbeats 8000000
set_option maxRecDepth 2000
open Go.Value renaming slice->V,pointer->Af,string->Ag,tuple->Ah,agg->Ai,int->Ao,oneCell'->Aq
open Option renaming none->I,some->M
open Go.RowKit renaming Hid->H,Below->Ab
open Go.Addr renaming mk->Q
open Go renaming undef->O,World->Ad,Value->Aj,Calls->Ak,Addr->Al,maxLen->Au
open Go.Obj renaming cells->J
open Go.Proofs.Tryz renaming prog->Ac
open Go.Ending renaming returned->Ae
open ByteArray renaming empty->Ap
open Go.IntKind renaming i64->Ar
open Bool renaming false->Av,true->Aw
open Go.Proofs.Tryz
open Go.ChangeShapes Go.WideShapes Go.ChangeAt Go.RowKit
namespace Go.Proofs.YtcaejlalnjnifaaGreat
section
open Gs (U)
def jO5 (s:BA):BA:=strOfNums (lx (Gs.sip (tat s) 1#64 2#64 s.size))++strOfNums (lx (Gs.sip (tat s) 3#64 4#64 s.size))
theorem JG (x:BitVec 64):(strOfNums (lx x)).size=8:=by rw[Fu,jJy]
theorem jEa (s:BA):(jO5 s).size=16:=by
 unfold jO5;rw[Dy,JG,JG]
theorem jGy (s:BA) (w:Ad) (hs:s.size<=4194304):CB 219 #[s] w (jO5 s):=by
 have z1:=JG (Gs.sip (tat s) 1#64 2#64 s.size);have z2:=JG (Gs.sip (tat s) 3#64 4#64 s.size);have HS:H (jO5 s=strOfNums (lx (Gs.sip (tat s) 1#64 2#64 s.size))++strOfNums (lx (Gs.sip (tat s) 3#64 4#64 s.size))):=rfl;go_enter func219,ntmps219
 go_wp2_with fail
 refine(jGu 1#64 2#64 s _ hs).mono ?_;rintro e w1 ⟨rfl,a0⟩;go_wp2_with fail
 refine(XT _ _).mono ?_;rintro e w2 ⟨rfl,b0⟩;go_wp2_with fail
 refine(jGu 3#64 4#64 s _ hs).mono ?_;rintro e w3 ⟨rfl,c0⟩;go_wp2_with fail
 refine(XT _ _).mono ?_;rintro e w4 ⟨rfl,d0⟩;have hb:=jA (jA a0 b0) (jA c0 d0);generalize strOfNums (lx (Gs.sip (tat s) 1#64 2#64 s.size))=t1 at z1 HS |-;generalize strOfNums (lx (Gs.sip (tat s) 3#64 4#64 s.size))=t2 at z2 HS |-;go_wp2
 go_ret
 exact⟨by rw[HS.out];rfl,hb⟩
theorem jDz (s:BA) (w:Ad) (hs:s.size<=4194304):CB 152 #[s] w (jO5 s):=by
 have z1:=JG (Gs.sip (tat s) 1#64 2#64 s.size);have z2:=JG (Gs.sip (tat s) 3#64 4#64 s.size);have HS:H (jO5 s=strOfNums (lx (Gs.sip (tat s) 1#64 2#64 s.size))++strOfNums (lx (Gs.sip (tat s) 3#64 4#64 s.size))):=rfl;go_enter func152,ntmps152
 go_wp2_with fail
 refine(jDy 1#64 2#64 s _ hs).mono ?_;rintro e w1 ⟨rfl,b0⟩;go_wp2_with fail
 refine(QY _ _).mono ?_;rintro e w2 ⟨rfl,c0⟩;go_wp2_with fail
 refine(jDy 3#64 4#64 s _ hs).mono ?_;rintro e w3 ⟨rfl,d0⟩;go_wp2_with fail
 refine(QY _ _).mono ?_;rintro e w4 ⟨rfl,e0⟩;have hb:=jA (jA b0 c0) (jA d0 e0);generalize strOfNums (lx (Gs.sip (tat s) 1#64 2#64 s.size))=t1 at z1 HS |-;generalize strOfNums (lx (Gs.sip (tat s) 3#64 4#64 s.size))=t2 at z2 HS |-;have a0:(t1++t2).size=16:=by rw[Dy];omega
 have hcut:(t1++t2).extract 0 16=t1++t2:=by rw[<-a0];exact ByteArray.extract_zero_size
 go_wp2
 go_ret
 exact⟨by rw[HS.out];rfl,hb⟩
end
namespace Gt
def jn (a b:BA):BA:=jO5 ((⟨#[1]⟩:BA)++a++b)
def lf (s:BA):BA:=jO5 ((⟨#[0]⟩:BA)++s)
theorem jn_size (a b:BA):(jn a b).size=16:=jEa _
theorem lf_size (a:BA):(lf a).size=16:=jEa _
def nb (i:Nat):Nat:=if i % 2=0 then i+1 else i-1
def hf (n:Nat):Nat:=(n+1) / 2
def up (m:Nat) (R:Nat->BA):Nat->BA:=fun i=>if 2*i+1<m then jn (R (2*i)) (R (2*i+1)) else if 2*i<m then R (2*i) else Ap
theorem up_congr {m:Nat} {R R':Nat->BA} (h:∀ i,i<m->R i=R' i):up m R=up m R':=by
 funext i
 unfold up;by_cases h1:2*i+1<m
 .rw[A6 h1,A6 h1,h _ (by omega),h _ h1]
 .rw[A5 h1,A5 h1];by_cases h2:2*i<m
  .rw[A6 h2,A6 h2,h _ h2]
  .rw[A5 h2,A5 h2]
theorem up_size {m:Nat} {R:Nat->BA} (h:∀ i,i<m->(R i).size=16):∀ i,i<hf m->(up m R i).size=16:=by
 intro i hi;unfold hf at hi;unfold up;by_cases h1:2*i+1<m
 .rw[A6 h1];exact jn_size _ _
 .rw[A5 h1,A6 (by omega)];exact h _ (by omega)
theorem up_pad (m:Nat) (R:Nat->BA):∀ i,hf m<=i->up m R i=Ap:=by
 intro i hi;unfold hf at hi;unfold up;rw[A5 (by omega),A5 (by omega)]
def rt (n:Nat) (R:Nat->BA):BA:=if _h:n<=1 then R 0 else rt (hf n) (up n R)
 termination_by n
 decreasing_by unfold hf;omega
theorem rt_one {n:Nat} (R:Nat->BA) (h:n<=1):rt n R=R 0:=by rw[rt,dif_pos h]
theorem rt_more {n:Nat} (R:Nat->BA) (h:¬ n<=1):rt n R=rt (hf n) (up n R):=by rw[rt,Hc h]
theorem rt_congr {n:Nat} {R R':Nat->BA} (hn:0<n) (h:∀ i,i<n->R i=R' i):rt n R=rt n R':=by
 by_cases e:n<=1
 .rw[rt_one _ e,rt_one _ e,h 0 hn]
 .rw[rt_more _ e,rt_more _ e,up_congr h]
theorem rt_size {n:Nat}:∀ {R:Nat->BA},0<n->(∀ i,i<n->(R i).size=16)->(rt n R).size=16:=by
 induction n using Nat.strongRecOn with
 | _ n ih=>
  intro R hn h;by_cases e:n<=1
  .rw[rt_one _ e];exact h 0 hn
  .rw[rt_more _ e];exact ih (hf n) (by unfold hf;omega) (by unfold hf;omega) (up_size h)
def pl (i n:Nat):Nat:=if _h:n<=1 then 0 else (if nb i<n then 1 else 0)+pl (i / 2) (hf n)
 termination_by n
 decreasing_by unfold hf;omega
theorem pl_one {n:Nat} (i:Nat) (h:n<=1):pl i n=0:=by rw[pl,dif_pos h]
theorem pl_yes {n:Nat} (i:Nat) (h:¬ n<=1) (hb:nb i<n):pl i n=1+pl (i / 2) (hf n):=by rw[pl,Hc h,A6 hb]
theorem pl_no {n:Nat} (i:Nat) (h:¬ n<=1) (hb:¬ nb i<n):pl i n=pl (i / 2) (hf n):=by rw[pl,Hc h,A5 hb,Bt]
theorem pl_le (k:Nat):∀ (i n:Nat),n<=2 ^ k->pl i n<=k:=by
 induction k with
 | zero=>intro i n h;rw[pl_one i (by simpa using h)];exact Ay _
 | succ k ih=>
  intro i n h;by_cases e:n<=1
  .rw[pl_one i e];exact Bi _
  .have h2:hf n<=2 ^ k:=by
    rw[Nat.pow_succ] at h;unfold hf;have:=Nat.one_le_two_pow (n:=k)
    omega
   have:=ih (i / 2) (hf n) h2
   by_cases hb:nb i<n
   .rw[pl_yes i e hb];omega
   .rw[pl_no i e hb];omega
def pf (n:Nat) (R:Nat->BA) (i:Nat) (j:Nat):BA:=
 if _h:n<=1 then Ap else if nb i<n then (if j=0 then R (nb i) else pf (hf n) (up n R) (i / 2) (j-1)) else pf (hf n) (up n R) (i / 2) j
 termination_by n
 decreasing_by all_goals (unfold hf;omega)
theorem pf_hd {n:Nat} (R:Nat->BA) (i:Nat) (h:¬ n<=1) (hb:nb i<n):pf n R i 0=R (nb i):=by rw[pf,Hc h,A6 hb,A6 rfl]
theorem pf_tl {n:Nat} (R:Nat->BA) (i j:Nat) (h:¬ n<=1) (hb:nb i<n):pf n R i (j+1)=pf (hf n) (up n R) (i / 2) j:=by rw[pf,Hc h,A6 hb,A5 (by omega)];rfl
theorem pf_no {n:Nat} (R:Nat->BA) (i j:Nat) (h:¬ n<=1) (hb:¬ nb i<n):pf n R i j=pf (hf n) (up n R) (i / 2) j:=by rw[pf,Hc h,A5 hb]
theorem pf_congr {n:Nat} {R R':Nat->BA} (h:∀ i,i<n->R i=R' i) (i j:Nat):pf n R i j=pf n R' i j:=by
 by_cases e:n<=1
 .rw[pf,dif_pos e,pf,dif_pos e]
 .by_cases hb:nb i<n
  .cases j with
   | zero=>rw[pf_hd _ _ e hb,pf_hd _ _ e hb,h _ hb]
   | succ j=>rw[pf_tl _ _ _ e hb,pf_tl _ _ _ e hb,up_congr h]
  .rw[pf_no _ _ _ e hb,pf_no _ _ _ e hb,up_congr h]
theorem pf_size {n:Nat}:∀ {R:Nat->BA} (i:Nat),i<n->(∀ i,i<n->(R i).size=16)->∀ j,j<pl i n->(pf n R i j).size=16:=by
 induction n using Nat.strongRecOn with
 | _ n ih=>
  intro R i hi h j hj;by_cases e:n<=1
  .rw[pl_one i e] at hj;omega
  .have b0:hf n<n:=by unfold hf;omega
   have a0:i / 2<hf n:=by unfold hf;omega
   by_cases hb:nb i<n
   .rw[pl_yes i e hb] at hj;cases j with
    | zero=>rw[pf_hd _ _ e hb];exact h _ hb
    | succ j=>rw[pf_tl _ _ _ e hb];exact ih (hf n) b0 (i / 2) a0 (up_size h) j (by omega)
   .rw[pl_no i e hb] at hj;rw[pf_no _ _ _ e hb];exact ih (hf n) b0 (i / 2) a0 (up_size h) j hj
def pr (x:BA) (i n:Nat) (P:Nat->BA) (c:Nat):BA:=
 if _h:n<=1 then x else if nb i<n then pr (if i % 2=0 then jn x (P c) else jn (P c) x) (i / 2) (hf n) P (c+1) else pr x (i / 2) (hf n) P c
 termination_by n
 decreasing_by all_goals (unfold hf;omega)
theorem pr_one {n:Nat} (x:BA) (i:Nat) (P:Nat->BA) (c:Nat) (h:n<=1):pr x i n P c=x:=by rw[pr,dif_pos h]
theorem pr_yes {n:Nat} (x:BA) (i:Nat) (P:Nat->BA) (c:Nat) (h:¬ n<=1) (hb:nb i<n):pr x i n P c=pr (if i % 2=0 then jn x (P c) else jn (P c) x) (i / 2) (hf n) P (c+1):=by rw[pr,Hc h,A6 hb]
theorem pr_no {n:Nat} (x:BA) (i:Nat) (P:Nat->BA) (c:Nat) (h:¬ n<=1) (hb:¬ nb i<n):pr x i n P c=pr x (i / 2) (hf n) P c:=by rw[pr,Hc h,A5 hb]
def nm (p s:Nat):Nat×Nat:=if _h:s<=1 then (p,s) else if nb p<s then (p,s) else nm (p / 2) (hf s)
 termination_by s
 decreasing_by unfold hf;omega
theorem nm_one {s:Nat} (p:Nat) (h:s<=1):nm p s=(p,s):=by rw[nm,dif_pos h]
theorem nm_yes {s:Nat} (p:Nat) (h:¬ s<=1) (hb:nb p<s):nm p s=(p,s):=by rw[nm,Hc h,A6 hb]
theorem nm_no {s:Nat} (p:Nat) (h:¬ s<=1) (hb:¬ nb p<s):nm p s=nm (p / 2) (hf s):=by rw[nm,Hc h,A5 hb]
theorem pl_nm {s:Nat}:∀ (p:Nat),pl (nm p s).1 (nm p s).2=pl p s:=by
 induction s using Nat.strongRecOn with
 | _ s ih=>
  intro p;by_cases e:s<=1
  .rw[nm_one p e]
  .by_cases hb:nb p<s
   .rw[nm_yes p e hb]
   .rw[nm_no p e hb,pl_no p e hb];exact ih (hf s) (by unfold hf;omega) _
theorem pr_nm {s:Nat}:∀ (x:BA) (p:Nat) (P:Nat->BA) (c:Nat),pr x (nm p s).1 (nm p s).2 P c=pr x p s P c:=by
 induction s using Nat.strongRecOn with
 | _ s ih=>
  intro x p P c;by_cases e:s<=1
  .rw[nm_one p e]
  .by_cases hb:nb p<s
   .rw[nm_yes p e hb]
   .rw[nm_no p e hb,pr_no _ _ _ _ e hb];exact ih (hf s) (by unfold hf;omega) _ _ _ _
theorem nb_xor (i:Nat):i ^^^ 1=nb i:=by
 unfold nb;have h1:(i ^^^ 1) / 2=i / 2:=by rw[Nat.xor_div_two];simp
 have h2:(i ^^^ 1) % 2=(i+1) % 2:=by
  have h:=Nat.xor_mod_two_pow (a:=i) (b:=1) (n:=1);rw[Nat.pow_one] at h;rw[h];rcases Nat.mod_two_eq_zero_or_one i with e|e
  .rw[e,show (i+1) % 2=1 by omega];decide
  .rw[e,show (i+1) % 2=0 by omega];decide
 by_cases e:i % 2=0
 .rw[A6 e];omega
 .rw[A5 e];omega
theorem nb_model (i:Nat):(i:Int)+1-2*((i:Int) % 2)=(nb i:Int):=by
 unfold nb;by_cases e:i % 2=0
 .rw[A6 e];omega
 .rw[A5 e];omega
end Gt
section
open Gt (jn lf)
theorem jBy (x:UInt8) (s:BA):((⟨#[x]⟩:BA)++s).size=s.size+1:=by rw[Dy,show (⟨#[x]⟩:BA).size=1 from rfl];omega
theorem jBt (a b:BA) (w:Ad) (ha:a.size<=1048576) (hb:b.size<=1048576):CB 218 #[a,b] w (jn a b):=by
 have h1:=jBy 1 a;have h2:((⟨#[1]⟩:BA)++a++b).size=a.size+1+b.size:=by rw[Dy,h1]
 have HS:H (∀ w0,CB 219 #[Ag ((⟨#[1]⟩:BA)++a++b)] w0 (jn a b)):=fun w0=>jGy _ w0 (by omega)
 have a0:(⟨#[1]⟩:BA).size=1:=rfl;go_enter func218,ntmps218
 go_wp2_with fail
 refine(HS _).mono ?_;rintro e w1 ⟨rfl,b1⟩;go_wp2
 go_ret
 exact⟨rfl,b1⟩
theorem jAq (a b:BA) (w:Ad) (ha:a.size<=1048576) (hb:b.size<=1048576):CB 203 #[a,b] w (jn a b):=by
 have h1:=jBy 1 a;have h2:((⟨#[1]⟩:BA)++a++b).size=a.size+1+b.size:=by rw[Dy,h1]
 have HS:H (∀ w0,CB 152 #[Ag ((⟨#[1]⟩:BA)++a++b)] w0 (jn a b)):=fun w0=>jDz _ w0 (by omega)
 have a0:(⟨#[1]⟩:BA).size=1:=rfl;go_enter func203,ntmps203
 go_wp2_with fail
 refine(HS _).mono ?_;rintro e w1 ⟨rfl,b1⟩;go_wp2
 go_ret
 exact⟨rfl,b1⟩
end
section
open Gt (nb hf)
abbrev SpV (p s:Int):Aj:=Ai #[p,s]
theorem Tryz.infoSp:(Tryz.prog.info? 243).map (·.size)=M 2:=by kernel_rfl
theorem jQ3 (p:Nat) (h:p<=1048576):bits .xor Ar (p:Int) 1=((nb p:Nat):Int):=by
 rw[<-Gt.nb_xor];exact jCk p 1 (by omega) (by omega)
theorem XA (s:Nat) (w:Ad) (hs:s<=1048576):CS 242 #[(s:Int)] w (Ao Ar ((hf s:Nat):Int)):=by
 obtain⟨q,hq⟩:∃ q,hf s=q:=⟨_,rfl⟩;have h1:IntKind.i64.wrap ((s:Int)+1)=(s:Int)+1:=by rw[A8];omega
 have h2:((s:Int)+1).tdiv 2=(q:Int):=by rw[D0 (by omega),<-hq];unfold hf;omega
 have h3:IntKind.i64.wrap (q:Int)=(q:Int):=by unfold hf at hq;rw[A8];omega
 rw[hq];go_enter func242,ntmps242
 go_wp2
 go_ret
 exact⟨rfl,rfl⟩
def inT (p s:Int):Bool:=decide (0<=p/\p<s/\s<=64)
theorem xO (p s:Int) (w:Ad):CB 228 #[SpV p s] w (inT p s):=by
 by_cases h1:0<=p
 .by_cases h2:p<s
  .by_cases h3:s<=64
   have HI:H (inT p s=Aw):=by show _=_;simp[inT,h1,h2,h3]
   rotate_left;have HI:H (inT p s=Av):=by show _=_;simp[inT];omega
   rotate_left;all_goals
    go_enter func228,ntmps228
    go_wp2
    go_ret
    exact⟨by rw[HI.out];rfl,(Az _ _).alloc (Ay _) _⟩
  .have HI:H (inT p s=Av):=by show _=_;simp[inT];omega
   go_enter func228,ntmps228
   go_wp2
   go_ret
   exact⟨by rw[HI.out];rfl,(Az _ _).alloc (Ay _) _⟩
 .have HI:H (inT p s=Av):=by show _=_;simp[inT];omega
  go_enter func228,ntmps228
  go_wp2
  go_ret
  exact⟨by rw[HI.out];rfl,(Az _ _).alloc (Ay _) _⟩
theorem xB (p s:Nat) (w:Ad) (hp:p<=1048576):CB 230 #[SpV (p:Int) (s:Int)] w (Ah #[Ao Ar ((nb p:Nat):Int),(decide (nb p<s))]):=by
 have hx:=jQ3 p hp;have hd:decide ((nb p:Int)<(s:Int))=decide (nb p<s):=by simp
 generalize nb p=q at hx hd;go_enter func230,ntmps230
 go_wp2_with fail
 go_quiet (fail)
 go_wp2
 go_ret2
 exact⟨by first|rfl|(rw[<-hd];rfl),xW ((Az _ _).alloc (Ay _) _) _⟩
theorem XB (p s:Nat) (w:Ad) (hp:p<=1048576) (hs:s<=1048576):CB 229 #[SpV (p:Int) (s:Int)] w (SpV ((p / 2:Nat):Int) ((hf s:Nat):Int)):=by
 obtain⟨q,hq⟩:∃ q,p / 2=q:=⟨_,rfl⟩;have h2:(p:Int).tdiv 2=(q:Int):=by rw[D0 (by omega),<-hq];omega
 have h3:IntKind.i64.wrap (q:Int)=(q:Int):=by rw[A8];omega
 rw[hq];clear hq;obtain⟨w1,b0⟩:=nmH ((w.alloc (J #[(p:Int),(s:Int)] 243)).alloc (J #[(),()] 243));have K1:H (Row w1 w 243 #[(p:Int),(s:Int)]/\Row w1 (w.1.size+1) 243 #[(),()]/\Ab w w w1):=by
  rw[b0.out];refine⟨(Row.new w _ _).alloc _,?_,((Az _ _).alloc (Ay _) _).alloc (by simp) _⟩;have:=Row.new (w.alloc (J #[(p:Int),(s:Int)] 243)) #[(),()] 243
  rw[show (w.alloc (J #[(p:Int),(s:Int)] 243)).1.size=w.1.size+1 by simp] at this;exact this
 obtain⟨r,hr⟩:∃ r,hf s=r:=⟨_,rfl⟩;have a0:=fun W=>XA s W hs
 rw[hr] at a0 |-;have KS:H (∀ W,CS 242 #[(s:Int)] W (r:Int)):=a0;clear a0 hr;go_enter func229,ntmps229
 go_wp2_with fail
 rw[<-b0.out];obtain⟨c0,c1⟩:=K1.1.c2 0 1;obtain⟨d0,d1⟩:=K1.2.1.c2 0 1;have f0:=K1.2.1.free 0;have f1:=K1.2.1.free 1;simp at c0 c1 d0 d1;go_still_tail 7,Tryz.mixed
 still_call (KS _)
 repeat still_step
 refine Gr ?_;rw[qP];have HR:=((K1.2.1.drew.set 0 (q:Int)).set 1 (r:Int));have HB:H (Ab w w ((w1.drew.setCell (Q (w.1.size+1) 0 I) (q:Int)).setCell (Q (w.1.size+1) 1 I) (r:Int))):=(K1.2.2.drew.setCell (by simp) _).setCell (by simp) _;go_wp2
 refine B7 (Ck rfl _ _ (w.1.size+1) 243 _ (0,0) _ rfl HR underlying243 rfl Tryz.infoSp) rfl ?_;exact⟨rfl,HB⟩
end
section
open Go.Shelf
open Gt (nb hf nm)
abbrev jS2 (s:Nat×Nat):Array Aj:=#[Ao Ar (s.1:Int),Ao Ar ((nb s.1:Nat):Int)]
abbrev jOk (s:Nat×Nat):Prop:=1<s.2/\nb s.1<s.2/\s.1<s.2/\s.2<=64
abbrev jNx (s:Nat×Nat):Nat×Nat:=nm (s.1 / 2) (hf s.2)
abbrev jFin (s:Nat×Nat):Prop:=s.2<=1
theorem jEh (f:FuncId):Fence.wide.fn f=True:=rfl
theorem JD:Fence.wide.depth=I:=rfl
theorem jA2 (i n:Nat) (hi:i<n) (hn:n<=64):jPf prog 217 (SpV (i:Int) (n:Int)) jS2 jOk jNx jFin (nm i n):=by
 intro nn m l J W hJ hY hm h0;subst hm;have KY:H (∀ s W1,jOk s->J s W1->W.1.size<W1.1.size->YieldAt Fence.wide m prog l (jS2 s) W1 fun e W'=>e=Ae Aw/\J (jNx s) W'/\W.1.size<W'.1.size/\W'.1[W.1.size]?=W1.1[W.1.size]?):=hY;clear hY;have KJ:H (∀ s A B,J s A->A.grownBy B (M W.1.size)->J s B):=hJ;clear hJ;have x0:=jEh;have v0:=JD;obtain⟨b,hb⟩:∃ b,W.1.size=b:=⟨_,rfl⟩;have KW:H (W.1.size=b):=hb;refine callsIn_of_wp func217 rfl trivial ?_ rfl;simp only[ntmps217,E0,Fr,Gb,Nat.reduceAdd,Nat.reduceSub,Es,Et,Fj,E6,En,Fa];gi_wp2
 gi_loopg [] n (fun gk wr=>∃ p s:Nat,s=gk/\p<s/\s<=64/\Row wr b 243 #[(p:Int),(s:Int)]/\H (J (nm p s) wr))
 case atStart=>
  refine⟨i,n,rfl,hi,hn,?_,KJ _ _ _ h0 (E8 _ _ _)⟩;rw[<-hb];exact Row.new W _ _
 case round=>
  obtain⟨p,s,rfl,t0,hs,hr,HJ⟩:=hrel;clear h0;obtain⟨c0,c1⟩:=hr.c2 0 1;simp at c0 c1;by_cases h1:s<=1
  .have s0:¬ (1:Int)<(s:Int):=by omega
   have HE:H (J (p,s) wr):=by have:=HJ.out;rw[Gt.nm_one p h1] at this;exact this
   gi_wp2
   go_end0
   exact⟨⟨_,rfl⟩,p,s,h1,HE⟩
  .have s0:(1:Int)<(s:Int):=by omega
   have q0:b<wr.1.size:=hr.lt;obtain⟨d,hd⟩:∃ d,decide (nb p<s)=d:=⟨_,rfl⟩;have KN:H (∀ w0,CB 230 #[SpV (p:Int) (s:Int)] w0 (Ah #[Ao Ar ((nb p:Nat):Int),.bool d])):=by
    have:=fun w0=>xB p s w0 (by omega)
    rw[hd] at this;exact this
   have KR:H (Row wr b 243 #[(p:Int),(s:Int)]):=hr;have KA:H (∀ w0,CB 229 #[SpV (p:Int) (s:Int)] w0 (SpV ((p / 2:Nat):Int) ((hf s:Nat):Int))):=fun w0=>XB p s w0 (by omega) (by omega)
   obtain⟨p',j0⟩:∃ p',p / 2=p':=⟨_,rfl⟩;obtain⟨s',i0⟩:∃ s',hf s=s':=⟨_,rfl⟩;have hps':p'<s'/\s'<s:=by unfold hf at i0;omega
   rw[j0,i0] at KA;clear hr;gi_wp2_with fail
   refine(Dv.2 (KN _)).mono ?_;rintro e w1 ⟨rfl,d0⟩;cases d with
   | false=>
    have f0:¬ nb p<s:=by simpa using hd
    have R1:=KR.below d0 q0;obtain⟨e0,e1⟩:=R1.c2 0 1;have g0:=R1.free 0;have g1:=R1.free 1;simp at e0 e1;have a0:H (J (nm p' s') w1):=by
     have:=KJ _ _ _ HJ (xF _ d0)
     rw[Gt.nm_no p h1 f0,j0,i0] at this;exact this
    clear c0 c1;gi_wp2_with fail
    refine(Dv.2 (KA _)).mono ?_;rintro e w2 ⟨rfl,n0⟩;have R2:=R1.below n0 R1.lt;have R3:=(R2.set 0 (p':Int)).set 1 (s':Int);have HJ2:H (J (nm p' s') ((w2.setCell (Q b 0 I) (p':Int)).setCell (Q b 1 I) (s':Int))):=by
     have hg:=xF (M b) n0;rw[<-KW.out] at hg |-;exact KJ _ _ _ (KJ _ _ _ (KJ _ _ _ a0 hg) (jP _ _ _ _)) (jP _ _ _ _)
    obtain⟨e0,e1⟩:=R2.c2 0 1;have g0:=R2.free 0;have g1:=R2.free 1;simp at e0 e1 R3;gi_wp2
    gi_roundg s'
    case measure=>exact hps'.2
    case rel=>exact⟨p',s',rfl,hps'.1,by omega,R3,HJ2⟩
   | true=>
    have f0:nb p<s:=by simpa using hd
    have R1:=KR.below d0 q0;obtain⟨e0,e1⟩:=R1.c2 0 1;simp at e0 e1;have a0:J (p,s) w1:=by
     have:=KJ _ _ _ HJ (xF _ d0)
     rw[Gt.nm_yes p h1 f0] at this;exact this
    obtain⟨fn,r0,b0,k0,hy,hR⟩:=KY (p,s) w1 ⟨by omega,f0,t0,hs⟩ a0 (by rw[KW.out];exact R1.lt);have HR:H (RoundIn Fence.wide m prog l fn r0 b0 k0 w1 fun e W'=>e=Ae Aw/\J (nm p' s') W'/\W.1.size<W'.1.size/\W'.1[W.1.size]?=w1.1[W.1.size]?):=by
     rw[<-j0,<-i0];exact hR
    clear hR a0 c0 c1;simp only[jS2] at hy;obtain⟨q,hq⟩:∃ q,nb p=q:=⟨_,rfl⟩;rw[hq] at hy;have y0:m+1-1=m:=rfl;gi_wp2
    try rw[hq]
    gi_wp2
    refine HR.mono ?_;rintro e w2 ⟨rfl,m0,u0,p0⟩;have R2:Row w2 b 243 #[(p:Int),(s:Int)]:=by
     unfold Row;rw[<-KW.out,p0,KW.out];exact R1
    have HJ2:H (J (nm p' s') w2):=m0;obtain⟨e0,e1⟩:=R2.c2 0 1;simp at e0 e1;clear p0 u0 m0;gi_wp2_with fail
    refine(Dv.2 (KA _)).mono ?_;rintro e w3 ⟨rfl,o0⟩;have R3:=R2.below o0 R2.lt;have R4:=(R3.set 0 (p':Int)).set 1 (s':Int);have HJ3:H (J (nm p' s') ((w3.setCell (Q b 0 I) (p':Int)).setCell (Q b 1 I) (s':Int))):=by
     have hg:=xF (M b) o0;rw[<-KW.out] at hg |-;exact KJ _ _ _ (KJ _ _ _ (KJ _ _ _ HJ2 hg) (jP _ _ _ _)) (jP _ _ _ _)
    obtain⟨e0,e1⟩:=R3.c2 0 1;have g0:=R3.free 0;have g1:=R3.free 1;simp at e0 e1 R4;gi_wp2
    gi_roundg s'
    case measure=>exact hps'.2
    case rel=>exact⟨p',s',rfl,hps'.1,by omega,R4,HJ3⟩
end
section
open Gt (hf up jn)
theorem jLc (a:OA) (m cap:Nat) (R:Nat->BA) (w:Ad) (h:jL w a m R) (hm:m<=64) (p0:∀ i,i<m->(R i).size=16):Ak prog 190 #[V a m cap] w fun e w'=>∃ g c,e=Ae (V (Q g 0 I) (hf m) c)/\jI w' w (Q g 0 I) (hf m) c (up m R)/\Ab w w w':=by
 obtain⟨i0,hi,s0,t0,u0⟩:=Cg Tryz.infoStr;have KH:H (jL w a m R):=h;have n0:H (∀ i,i<m->(R i).size=16):=p0;obtain⟨q,Hq⟩:=nnH (hf m);have hq:q<=32:=by rw[<-Hq.out];unfold hf;omega
 rw[Hq.out];have K1:H (jI (w.alloc (J #[] 9)) w (Q w 0 I) 0 0 (up m R)):=jIq w _;have KB1:H (Ab w w (w.alloc (J #[] 9))):=(Az _ _).alloc (Ay _) _;clear h p0;go_enter func190,ntmps190
 go_wp2
 go_loopw [3,4] (fun v i wr=>∃ (k G c:Nat),k<=q/\i=Ao Ar ((2*k:Nat):Int)/\v=V G k c/\jI wr w G k c (up m R)/\Ab w w wr) (fun _ i _=>2*q-(intOf i).toNat)
 case atStart=>exact⟨0,_,_,Bi _,rfl,rfl,K1,KB1⟩
 case round=>
  obtain⟨k,G,c,hk,rfl,rfl,b0,d0⟩:=hrel;clear K1 KB1;obtain⟨p,hp⟩:∃ p,2*k=p:=⟨_,rfl⟩;rw[hp];have r0:=d0.size;have q0:=(A0 b0 _ rfl).1;have c1:IntKind.i64.wrap ((p:Int)+2)=((2*(k+1):Nat):Int):=by rw[A8];omega
  have z0:IntKind.i64.wrap ((p:Int)+1)=(p:Int)+1:=by rw[A8];omega
  by_cases hlt:k<q
  .have j0:p<m:=by have:=Hq.out;unfold hf at this;omega
   have b1:(p:Int)<(m:Int):=by omega
   obtain⟨b,off,rfl,h0⟩:=KH.some (by omega);have m0:b<w:=A7 (h0 p j0);have g0:=fun i hi=>(d0.cell (p:=Q b (off+i) I) m0).trans (h0 i hi)
   have e1:=g0 p j0;have z1:=n0 p j0;by_cases hlt2:p+1<m
   .have e2:=g0 (p+1) hlt2;have z2:=n0 (p+1) hlt2;have f0:(p:Int)+1<(m:Int):=by omega
    have HU:H (jn (R p) (R (p+1))=up m R k):=by
     show _=_;unfold up;rw[A6 (by omega),hp]
    obtain⟨p1,v0⟩:∃ p1,p+1=p1:=⟨_,rfl⟩;rw[v0] at e2 z2 HU;have x0:(p:Int)+1=(p1:Int):=by omega
    have a1:(p1:Int)<(m:Int):=by omega
    rw[x0] at z0 f0;generalize R p=s1 at e1 z1 HU;generalize R p1=s2 at e2 z2 HU;have HJ:H (∀ w0,CB 203 #[s1,s2] w0 (jn s1 s2)):=fun w0=>jAq _ _ w0 (by omega) (by omega)
    generalize jn s1 s2=z at HJ HU;have KO:H (jI wr w G k c (up m R)):=b0;have KB:H (Ab w w wr):=d0;have lb:b<wr.1.size:=A7 e1;clear b0 d0 g0 h0 z1 z2;go_wp2_with fail
    go_region_held3 (fun w'=>w'.cell? (Q b (off+p) I)=M (Ag s1)/\w'.cell? (Q b (off+p1) I)=M (Ag s2)) (go_keep) ((first|(go_at_call 203;refine Ax (HJ _) ?_;rintro e w9 ⟨rfl,k0⟩;have e0:=jC k0;clear k0;have g1:=(e0.cell (p:=Q b (off+p) I) lb).trans e1;have g2:=(e0.cell (p:=Q b (off+p1) I) lb).trans e2;have o0:H (jI (w9.alloc (J #[z] 9)) w G k c (up m R)):=Cb (jI.below KO e0) _;have y0:=e0.size)|(guard_hyp y0;refine xK _ rfl _ _ _ rfl w 9 i0 _ 1 16 C3 hi s0 t0 u0 rfl (by omega) G k c _ rfl o0.out ⟨w9.1.size,0,I⟩ 1 1 [z] rfl rfl (Cf (cs:=#[Ag z]) (t:=9) (fr:=(0,0)) (Cq w9 _)) (by simp[Aq]) (by unfold Au;omega) (by omega) (by simp;omega) ?_;intro g3 cap3 w3 c0 a0;have B9:Ab w w9 w3:=((Az _ w9).alloc (by omega) _).grown a0 (by simp;omega) (fun j hj=>by cases hj;exact q0);have k1:=(B9.cell (p:=Q b (off+p) I) m0).trans g1;have k2:=(B9.cell (p:=Q b (off+p1) I) m0).trans g2)))
    all_goals
     have HO:H (jI w3 w g3 (k+1) cap3 (up m R)):=by
      show jI _ _ _ _ _ _;unfold jI;rw[QC,<-HU.out];exact c0
     have HB3:H (Ab w w w3):=(KB.trans (e0.mono r0)).trans B9;clear c0 a0 B9 k1 k2 g1 g2 e1 e2 o0 e0 KO KB;go_wp2
     go_roundw
     case rel=>exact⟨k+1,g3,cap3,by omega,rfl,rfl,HO.out,HB3.out⟩
     case measure=>simp[intOf];omega
   .have f0:¬ (p:Int)+1<(m:Int):=by omega
    have HU:H (R p=up m R k):=by
     show _=_;unfold up;rw[A5 (by omega),A6 (by omega),hp]
    generalize R p=s1 at e1 z1 HU;clear g0 h0 z1;go_wp2_with (at_builtin;refine qF _ rfl _ _ 27 rfl w 9 i0 Ap 1 16 C3 hi s0 t0 u0 rfl (by decide) G k c _ rfl (Cb b0 _) ⟨wr.1.size,0,I⟩ 1 1 [s1] rfl rfl (Cf (cs:=#[Ag s1]) (t:=9) (fr:=(0,0)) (Cq wr _)) (by simp[Aq]) (by unfold Au;omega) (by omega) (by simp;omega) ?_;intro g3 cap3 w3 c0 a0)
    have HO:H (jI w3 w g3 (k+1) cap3 (up m R)):=by
     show jI _ _ _ _ _ _;unfold jI;rw[QC,<-HU.out];exact c0
    have HB3:H (Ab w w w3):=(d0.alloc r0 _).grown (show World.grownBy _ w3 (M G) from a0) (by simp;omega) (fun j hj=>by cases hj;exact q0);clear c0 a0 b0;go_roundw
    case rel=>exact⟨k+1,g3,cap3,by omega,rfl,rfl,HO.out,HB3.out⟩
    case measure=>simp[intOf];omega
  .obtain rfl:k=q:=by omega
   have j0:¬ (p:Int)<(m:Int):=by have:=Hq.out;unfold hf at this;omega
   have HO:H (jI wr w G k c (up m R)):=b0;clear b0;go_wp2
   go_ret
   exact⟨G,c,rfl,HO,d0⟩
end
section
open Gt (lf)
theorem jJu (s:BA) (w:Ad) (hs:s.size<=2097152):CB 206 #[s] w (lf s):=by
 have h1:=jBy 0 s;have HS:H (∀ w0,CB 219 #[Ag ((⟨#[0]⟩:BA)++s)] w0 (lf s)):=fun w0=>jGy _ w0 (by omega)
 have a0:(⟨#[0]⟩:BA).size=1:=rfl;go_enter func206,ntmps206
 go_wp2_with fail
 refine(HS _).mono ?_;rintro e w1 ⟨rfl,b1⟩;go_wp2
 go_ret
 exact⟨rfl,b1⟩
theorem jIh (s:BA) (w:Ad) (hs:s.size<=2097152):CB 104 #[s] w (lf s):=by
 have h1:=jBy 0 s;have HS:H (∀ w0,CB 152 #[Ag ((⟨#[0]⟩:BA)++s)] w0 (lf s)):=fun w0=>jDz _ w0 (by omega)
 have a0:(⟨#[0]⟩:BA).size=1:=rfl;go_enter func104,ntmps104
 go_wp2_with fail
 refine(HS _).mono ?_;rintro e w1 ⟨rfl,b1⟩;go_wp2
 go_ret
 exact⟨rfl,b1⟩
def pHd (k n i:Nat) (s:BA):BA:=strOfNums [(k:Int),(n:Int),(i:Int),((s.size % 256:Nat):Int)]++s
noncomputable def plf (k n i:Int) (s:BA):BA:=if isB k=Aw/\isB n=Aw/\isB i=Aw then lf (pHd k.toNat n.toNat i.toNat s) else ⟨#[]⟩
theorem jE7 {k n i:Nat} (s:BA) (hk:k<256) (hn:n<256) (hi:i<256):plf (k:Int) (n:Int) (i:Int) s=lf (pHd k n i s):=by
 unfold plf;rw[A6 ⟨qW hk,qW hn,qW hi⟩];simp
theorem jA6 {k n i:Int} (s:BA) (h:isB k=Av\/isB n=Av\/isB i=Av):plf k n i s=⟨#[]⟩:=by
 unfold plf;rw[A5];rintro⟨h1,h2,h3⟩;rcases h with h|h|h
 .rw[h] at h1;cases h1
 .rw[h] at h2;cases h2
 .rw[h] at h3;cases h3
theorem jSb (k n i:Int) (s:BA):(plf k n i s).size<=16:=by
 unfold plf;split
 .rw[Gt.lf_size];omega
 .decide
theorem jAz {w:Ad} {ty:TypeId} {a b c d:Int}:∀ i,i<4->(w.alloc (J #[Ao .u8 a,Ao .u8 b,Ao .u8 c,Ao .u8 d] ty)).cell? (Q w (0+i) I)=M (Ao .u8 ([a,b,c,d].getD i 0)):=by
 intro i hi;rw[Bt,cell_of_row _ _ _ _ ty _ (Cq w _)];match i,hi with
 | 0,_=>rfl
 | 1,_=>rfl
 | 2,_=>rfl
 | 3,_=>rfl
theorem QV (k n i:Int) (s:BA) (w:Ad) (hs:s.size<=1048576):CB 184 #[k,n,i,s] w (plf k n i s):=by
 have KB:H (∀ (a:Int) (W:Ad),CS 205 #[Ao Ar a] W (isB a)):=fun a W=>jHr a W
 cases h1:isB k with
 | false=>
  rw[jA6 s (.inl h1)];go_enter func184,ntmps184
  go_wp2_with (go_at_call 205;refine(KB _ _).mono ?_;rintro e w' ⟨rfl,hw⟩;obtain rfl:=hw.symm)
  go_ret
  exact⟨rfl,Az _ _⟩
 | true=>
  cases h2:isB n with
  | false=>
   rw[jA6 s (.inr (.inl h2))];go_enter func184,ntmps184
   go_wp2_with (go_at_call 205;refine(KB _ _).mono ?_;rintro e w' ⟨rfl,hw⟩;obtain rfl:=hw.symm)
   go_ret
   exact⟨rfl,Az _ _⟩
  | true=>
   cases h3:isB i with
   | false=>
    rw[jA6 s (.inr (.inr h3))];go_enter func184,ntmps184
    go_wp2_with (go_at_call 205;refine(KB _ _).mono ?_;rintro e w' ⟨rfl,hw⟩;obtain rfl:=hw.symm)
    go_ret
    exact⟨rfl,Az _ _⟩
   | true=>
    obtain⟨k',hk,rfl⟩:=zV h1;obtain⟨n',hn,rfl⟩:=zV h2;obtain⟨i',hi,rfl⟩:=zV h3;have e1:IntKind.u8.wrap (k':Int)=(k':Int):=by rw[Di];omega
    have e2:IntKind.u8.wrap (n':Int)=(n':Int):=by rw[Di];omega
    have e3:IntKind.u8.wrap (i':Int)=(i':Int):=by rw[Di];omega
    obtain⟨sz,b0⟩:∃ sz,s.size=sz:=⟨_,rfl⟩;obtain⟨c,hc⟩:∃ c,sz % 256=c:=⟨_,rfl⟩;have e4:IntKind.u8.wrap (sz:Int)=(c:Int):=by rw[Di];omega
    have HP:H (plf (k':Int) (n':Int) (i':Int) s=lf (strOfNums [(k':Int),(n':Int),(i':Int),(c:Int)]++s)):=by show _=_;rw[jE7 s hk hn hi,pHd,b0,hc]
    rw[HP.out];have d0:=Dq (P:=prog) (w.alloc (J #[Ao .u8 (k':Int),Ao .u8 (n':Int),Ao .u8 (i':Int),Ao .u8 (c:Int)] 5)) 22 5 Cr D9 w 0 4 4 [(k':Int),(n':Int),(i':Int),(c:Int)] rfl jAz 9 C6;obtain⟨hd,HH⟩:=nnH (strOfNums [(k':Int),(n':Int),(i':Int),(c:Int)]);have e0:hd.size=4:=by rw[<-HH.out,Fu];rfl
    rw[HH.out] at d0 |-;have f0:(hd++s).size=4+sz:=by rw[Dy,e0,b0]
    have HL:H (∀ W,CB 206 #[Ag (hd++s)] W (lf (hd++s))):=fun W=>jJu _ W (by omega)
    have a0:Ab w w (w.alloc (J #[Ao .u8 (k':Int),Ao .u8 (n':Int),Ao .u8 (i':Int),Ao .u8 (c:Int)] 5)):=(Az _ _).alloc (Ay _) _;have c0:H _:=a0;clear a0 f0 hc HP;go_enter func184,ntmps184
    go_wp2_with (go_at_call 205;refine(KB _ _).mono ?_;rintro e w' ⟨rfl,hw⟩;obtain rfl:=hw.symm)
    refine(HL _).mono ?_;rintro e w1 ⟨rfl,b1⟩;go_wp2
    go_ret
    exact⟨rfl,jA c0 b1⟩
theorem JR (k n i:Int) (s:BA) (w:Ad) (hs:s.size<=1048576):CB 157 #[k,n,i,s] w (plf k n i s):=by
 have KB:H (∀ (a:Int) (W:Ad),CS 182 #[Ao Ar a] W (isB a)):=fun a W=>QB a W
 cases h1:isB k with
 | false=>
  rw[jA6 s (.inl h1)];go_enter func157,ntmps157
  go_wp2_with (go_at_call 182;refine(KB _ _).mono ?_;rintro e w' ⟨rfl,hw⟩;obtain rfl:=hw.symm)
  go_ret
  exact⟨rfl,Az _ _⟩
 | true=>
  cases h2:isB n with
  | false=>
   rw[jA6 s (.inr (.inl h2))];go_enter func157,ntmps157
   go_wp2_with (go_at_call 182;refine(KB _ _).mono ?_;rintro e w' ⟨rfl,hw⟩;obtain rfl:=hw.symm)
   go_ret
   exact⟨rfl,Az _ _⟩
  | true=>
   cases h3:isB i with
   | false=>
    rw[jA6 s (.inr (.inr h3))];go_enter func157,ntmps157
    go_wp2_with (go_at_call 182;refine(KB _ _).mono ?_;rintro e w' ⟨rfl,hw⟩;obtain rfl:=hw.symm)
    go_ret
    exact⟨rfl,Az _ _⟩
   | true=>
    obtain⟨k',hk,rfl⟩:=zV h1;obtain⟨n',hn,rfl⟩:=zV h2;obtain⟨i',hi,rfl⟩:=zV h3;have e1:IntKind.u8.wrap (k':Int)=(k':Int):=by rw[Di];omega
    have e2:IntKind.u8.wrap (n':Int)=(n':Int):=by rw[Di];omega
    have e3:IntKind.u8.wrap (i':Int)=(i':Int):=by rw[Di];omega
    obtain⟨sz,b0⟩:∃ sz,s.size=sz:=⟨_,rfl⟩;obtain⟨c,hc⟩:∃ c,sz % 256=c:=⟨_,rfl⟩;have e5:(sz:Int).tmod 256=(c:Int):=by rw[Eg (by omega)];omega
    have e4:IntKind.u8.wrap (c:Int)=(c:Int):=by rw[Di];omega
    have HP:H (plf (k':Int) (n':Int) (i':Int) s=lf (strOfNums [(k':Int),(n':Int),(i':Int),(c:Int)]++s)):=by show _=_;rw[jE7 s hk hn hi,pHd,b0,hc]
    rw[HP.out];have d0:=Dq (P:=prog) (w.alloc (J #[Ao .u8 (k':Int),Ao .u8 (n':Int),Ao .u8 (i':Int),Ao .u8 (c:Int)] 5)) 22 5 Cr D9 w 0 4 4 [(k':Int),(n':Int),(i':Int),(c:Int)] rfl jAz 9 C6;obtain⟨hd,HH⟩:=nnH (strOfNums [(k':Int),(n':Int),(i':Int),(c:Int)]);have e0:hd.size=4:=by rw[<-HH.out,Fu];rfl
    rw[HH.out] at d0 |-;have f0:(hd++s).size=4+sz:=by rw[Dy,e0,b0]
    have HL:H (∀ W,CB 104 #[Ag (hd++s)] W (lf (hd++s))):=fun W=>jIh _ W (by omega)
    have a0:Ab w w (w.alloc (J #[Ao .u8 (k':Int),Ao .u8 (n':Int),Ao .u8 (i':Int),Ao .u8 (c:Int)] 5)):=(Az _ _).alloc (Ay _) _;have c0:H _:=a0;clear a0 f0 hc HP;go_enter func157,ntmps157
    go_wp2_with (go_at_call 182;refine(KB _ _).mono ?_;rintro e w' ⟨rfl,hw⟩;obtain rfl:=hw.symm)
    refine(HL _).mono ?_;rintro e w1 ⟨rfl,b1⟩;go_wp2
    go_ret
    exact⟨rfl,jA c0 b1⟩
end
section
open Go.Shelf
open Gt (nb hf nm pl)
def plI (i n:Int):Int:=if inT i n=Aw then ((pl i.toNat n.toNat:Nat):Int) else -1
theorem Row.grown {w w':Ad} {g j:Nat} {t:TypeId} {cs:Array Aj} (h:Row w g t cs) (hg:w.grownBy w' (M j)) (hj:g≠j):Row w' g t cs:=(hg.block g h.lt (by simpa using hj)).trans h
theorem qG {B j:Nat} {w0 w w':Ad} (h:Ab B w0 w) (hg:w.grownBy w' (M j)) (hB:B<=w) (hj:B<=j):Ab B w0 w':=h.grown hg hB (fun k e=>by cases e;exact hj)
theorem jE8 (i n:Nat) (w:Ad) (g0:inT (i:Int) (n:Int)=Aw):CB 215 #[(i:Int),(n:Int)] w (Ao Ar ((pl i n:Nat):Int)):=by
 have hi:i<n/\n<=64:=by simp[inT] at g0;omega
 have KT:H (∀ w0,CB 228 #[SpV (i:Int) (n:Int)] w0 Aw):=by
  have:=fun w0=>xO (i:Int) (n:Int) w0
  rw[g0] at this;exact this
 have o0:=jEh;have n0:=JD;refine(Dv (n:=2)).1 ?_;refine callsIn_of_wp_marks func215 rfl trivial ?_ rfl;simp only[ntmps215,E0,Fr,Gb,Nat.reduceAdd,Nat.reduceSub,Es,Et,Fj,E6,En,Fa];have R0:=Row.new w #[(i:Int),(n:Int)] 243;have a0:H (Ab w w (w.alloc (J #[(i:Int),(n:Int)] 243))):=(Az _ _).alloc (Ay _) _;gi_wp2_with fail
 refine(Dv.2 (KT.out _)).mono ?_;rintro e w1 ⟨rfl,b0⟩;have R1:=R0.below b0 R0.lt;have R2:=R1.alloc (J #[()] 3);obtain⟨c0,c1⟩:=R2.c2 0 1;simp at c0 c1;have HN:H (Row (w1.alloc (J #[()] 3)) w1 3 #[Ao Ar ((0:Nat):Int)]/\Ab w w (w1.alloc (J #[()] 3))/\(w1.alloc (J #[()] 3)).1.size=w1.1.size+1/\w.1.size<=w1.1.size):=by
  have hb:=jA a0.out b0;exact⟨Row.new _ _ _,hb.alloc hb.size _,by simp,hb.size⟩
 gi_wp2
 clear c0 c1 R2 R1 R0 a0;generalize w1.alloc (J #[()] 3)=w2 at HN |-;obtain⟨B,hB⟩:∃ B,w1.1.size=B:=⟨_,rfl⟩;rw[hB] at HN |-;clear hB;refine zP (recv:=SpV (i:Int) (n:Int)) (gf:=217) rfl (enters_of func217 (by kernel_rfl) rfl) (jA2 i n hi.1 hi.2) (fun _=>rfl)
  (fun s W=>Ab w w W/\∃ c:Nat,Row W B 3 #[(c:Int)]/\c+pl s.1 s.2=pl i n) ?abide ?start ?round ?done
 case abide=>
  rintro s A A' j h1 h2 ⟨hb,c,hr,hc⟩ hg;exact⟨qG hb hg hb.size (by have:=HN.out;omega),c,hr.grown hg (by have:=HN.out;omega),hc⟩
 case start=>exact⟨HN.out.2.1,0,HN.out.1,by rw[Gt.pl_nm];omega⟩
 case round=>
  rintro l s W h0 ⟨hb,c,hr,hc⟩ p0;have q0:c<=64:=by
   have:=Gt.pl_le 6 i n (by omega)
   omega
  have m0:=Oper.semAt_some;gi_wp2
  refine⟨F7 _ _,?_⟩;intro W2 d0 r0;have r2:=hr.grown d0 (by have:=HN.out;omega);have i0:=qG hb d0 hb.size (by have:=HN.out;omega);have e0:=r2.cell 0;have f0:=r2.free 0;simp at e0;obtain⟨c1,j0⟩:∃ c1,c+1=c1:=⟨_,rfl⟩;have hw:IntKind.i64.wrap ((c:Int)+1)=(c1:Int):=by rw[A8];omega
  have HR:H (Row (W2.setCell (Q B 0 I) (c1:Int)) B 3 #[(c1:Int)]):=r2.set 0 (c1:Int);have HB:H (Ab w w (W2.setCell (Q B 0 I) (c1:Int))):=i0.setCell (by have:=HN.out;simp;omega) _;have HC:H (c1+pl (jNx s).1 (jNx s).2=pl i n):=by
   have h1:=h0.1;rw[Gt.pl_yes s.1 (by omega) h0.2.1] at hc;show _=_;rw[Gt.pl_nm];omega
  clear j0;gi_wp2
  exact⟨by simp,fun j h1 h2=>Dg _ _ _ _ (by have:=HN.out;simp;omega),HB.out,c1,HR.out,HC.out⟩
 case done=>
  rintro s W hf ⟨hb,c,hr,hc⟩ hK;have e0:=hr.cell 0;simp at e0;have k0:c=pl i n:=by rw[Gt.pl_one _ hf] at hc;omega
  gi_wp2
  refine⟨by simp,.inl ⟨_,_,rfl,run_takeDeferred hK,?_⟩⟩;exact⟨_,results_tmp rfl _ _ _,by rw[<-k0];rfl,qG hb (qS _ _ _) hb.size (by have:=HN.out;omega)⟩
theorem XW (i n:Int) (w:Ad):CB 215 #[i,n] w (plI i n):=by
 cases hin:inT i n with
 | true=>
  obtain⟨i',rfl⟩:∃ i':Nat,i=(i':Int):=⟨i.toNat,by simp[inT] at hin;omega⟩;obtain⟨n',rfl⟩:∃ n':Nat,n=(n':Int):=⟨n.toNat,by simp[inT] at hin;omega⟩;have e:plI (i':Int) (n':Int)=((pl i' n':Nat):Int):=by unfold plI;rw[A6 hin];simp
  rw[e];exact jE8 i' n' w hin
 | false=>
  have e:plI i n = -1:=by unfold plI;rw[hin];rfl
  rw[e];have KT:H (∀ w0,CB 228 #[SpV i n] w0 Av):=by
   have:=fun w0=>xO i n w0
   rw[hin] at this;exact this
  go_enter func215,ntmps215
  go_wp2_with fail
  refine(KT _).mono ?_;rintro e w1 ⟨rfl,a0⟩;have hb:=jA ((Az _ w).alloc (Ay _) (J #[i,n] 243)) a0;go_wp2
  go_ret
  exact⟨rfl,hb⟩
end
section
open Gt (nb hf pl)
theorem jFr (p s:Nat) (hp:p<s) (hs:s<=64):IntKind.i64.wrap ((p:Int)+1)=(p:Int)+1/\(p:Int).tmod 2=(p:Int) % 2/\IntKind.i64.wrap (2*((p:Int) % 2))=2*((p:Int) % 2)/\IntKind.i64.wrap ((p:Int)+1-2*((p:Int) % 2))=((nb p:Nat):Int)/\(p:Int).tdiv 2=((p / 2:Nat):Int)/\IntKind.i64.wrap ((p / 2:Nat):Int)=((p / 2:Nat):Int)/\IntKind.i64.wrap ((s:Int)+1)=(s:Int)+1/\((s:Int)+1).tdiv 2=((hf s:Nat):Int)/\IntKind.i64.wrap ((hf s:Nat):Int)=((hf s:Nat):Int):=by
 refine⟨by rw[A8];omega,by rw[Eg (by omega)],by rw[A8];omega,?_,by rw[D0 (by omega)];omega,by rw[A8];omega,by rw[A8];omega,by rw[D0 (by omega)];unfold hf;omega,by unfold hf;rw[A8];omega⟩;rw[Gt.nb_model,A8];have:nb p<=p+1:=by unfold nb;split <;> omega
 omega
theorem ZY {x a b:Int} (h:¬ (a<=x/\x<=b)):inB x a b=Av:=by unfold inB;simpa using h
theorem QN {x a b:Int} (h:a<=x/\x<=b):inB x a b=Aw:=by unfold inB;simpa using h
theorem jB9 (i n:Int) (w:Ad):CS 202 #[i,n] w (plI i n):=by
 by_cases hn:1<=n/\n<=64
 .have KN:=QN hn;have f0:IntKind.i64.wrap (n-1)=n-1:=by rw[A8];omega
  by_cases hi:0<=i/\i<=n-1
  .have KI:=QN hi;obtain⟨i',rfl⟩:∃ i':Nat,i=(i':Int):=⟨i.toNat,by omega⟩;obtain⟨n',rfl⟩:∃ n':Nat,n=(n':Int):=⟨n.toNat,by omega⟩;have d0:inT (i':Int) (n':Int)=Aw:=by simp[inT];omega
   have e:plI (i':Int) (n':Int)=((pl i' n':Nat):Int):=by unfold plI;rw[A6 d0];simp
   rw[e];obtain⟨N,hN⟩:∃ N,pl i' n'=N:=⟨_,rfl⟩;have e0:N<=6:=by rw[<-hN];exact Gt.pl_le 6 _ _ (by omega)
   have HN:=hd hN;rw[hN];go_enter func202,ntmps202
   go_wp2_with (go_at_call 43;refine(jN _ _ _ _).mono ?_;rintro e w' ⟨rfl,hw⟩;obtain rfl:=hw.symm)
   go_loop [0,1,5] (fun vi vn vc=>∃ p s c:Nat,p<s/\s<=64/\c<=6/\H (c+pl p s=N)/\vi=Ao Ar (p:Int)/\vn=Ao Ar (s:Int)/\vc=Ao Ar (c:Int)) (fun _ vn _=>(intOf vn).toNat)
   case atStart=>exact⟨i',n',0,by omega,by omega,by omega,by show 0+_=_;rw[HN.out];omega,rfl,rfl,rfl⟩
   case round=>
    obtain⟨p,s,c,hp,hs,hc,HC,rfl,rfl,rfl⟩:=hrel;by_cases h1:s<=1
    .have c0:¬ (1:Int)<(s:Int):=by omega
     have HE:H (c=N):=by have:=HC.out;rw[Gt.pl_one p h1] at this;show _=_;omega
     go_wp2
     go_ret
     exact⟨by rw[<-HE.out];rfl,rfl⟩
    .have c0:(1:Int)<(s:Int):=by omega
     obtain⟨u1,u2,u3,u4,u5,u6,u7,u8,u9⟩:=jFr p s hp hs;have a0:p / 2<hf s/\hf s<s:=by unfold hf;omega
     by_cases hb:nb p<s
     .have HC2:H (c+1+pl (p / 2) (hf s)=N):=by have:=HC.out;rw[Gt.pl_yes p h1 hb] at this;show _=_;omega
      have b0:((nb p:Nat):Int)<(s:Int):=by omega
      have hc2:c+1<=6:=by have:=HC2.out;omega
      generalize nb p=q at u4 b0;generalize p / 2=p' at u5 u6 a0 HC2;generalize hf s=s' at u8 u9 a0 HC2;go_wp2
      go_round
      case rel=>exact⟨p',s',c+1,by omega,by omega,hc2,HC2,rfl,rfl,by go_num⟩
      case measure=>simp[intOf];omega
     .have HC2:H (c+pl (p / 2) (hf s)=N):=by have:=HC.out;rw[Gt.pl_no p h1 hb] at this;exact this
      have b0:¬ ((nb p:Nat):Int)<(s:Int):=by omega
      generalize nb p=q at u4 b0;generalize p / 2=p' at u5 u6 a0 HC2;generalize hf s=s' at u8 u9 a0 HC2;go_wp2
      go_round
      case rel=>exact⟨p',s',c,by omega,by omega,hc,HC2,rfl,rfl,rfl⟩
      case measure=>simp[intOf];omega
  .have KI:=ZY hi;have e:plI i n = -1:=by unfold plI;rw[show inT i n=Av by simp[inT];omega];rfl
   rw[e];go_enter func202,ntmps202
   go_wp2_with (go_at_call 43;refine(jN _ _ _ _).mono ?_;rintro e w' ⟨rfl,hw⟩;obtain rfl:=hw.symm)
   go_ret
   exact⟨rfl,rfl⟩
 .have KN:=ZY hn;have e:plI i n = -1:=by unfold plI;rw[show inT i n=Av by simp[inT];omega];rfl
  rw[e];go_enter func202,ntmps202
  go_wp2_with (go_at_call 43;refine(jN _ _ _ _).mono ?_;rintro e w' ⟨rfl,hw⟩;obtain rfl:=hw.symm)
  go_ret
  exact⟨rfl,rfl⟩
end
def aS (n:Nat) (S:Nat->BA):Bool:=decide (∀ i,i<n->(S i).size=16)
theorem jCq {n:Nat} {S:Nat->BA} (h:∀ i,i<n->(S i).size=16):aS n S=Aw:=by unfold aS;simpa using h
theorem jRb {n k:Nat} {S:Nat->BA} (hk:k<n) (h:(S k).size≠16):aS n S=Av:=by unfold aS;simp;exact⟨k,hk,h⟩
theorem jIw {n:Nat} {S:Nat->BA}:aS n S=Aw↔∀ i,i<n->(S i).size=16:=by unfold aS;simp
theorem zF (a:OA) (n cap:Nat) (S:Nat->BA) (w:Ad) (h:jL w a n S) (hn:n<=1048576) (hL:∀ i,i<n->(S i).size<=Au):CS 216 #[V a n cap] w (aS n S):=by
 unfold Au at hL;have KH:H (jL w a n S):=h;have KL:H (∀ i,i<n->(S i).size<=9223372036854775807):=hL;clear h hL;go_enter func216,ntmps216
 go_wp2
 go_loop [7] (fun i=>∃ k:Nat,k<=n/\i=Ao Ar k/\H (∀ i,i<k->(S i).size=16)) (fun i=>n-(intOf i).toNat)
 case atStart=>exact⟨0,Bi _,rfl,fun i hi=>by omega⟩
 case round=>
  obtain⟨k,hk,rfl,HS⟩:=hrel;by_cases hlt:k<n
  .obtain⟨b,off,rfl,hc⟩:=KH k hlt;have b0:(k:Int)<(n:Int):=by omega
   have hl:=KL k hlt;obtain⟨s,hs⟩:∃ s,S k=s:=⟨_,rfl⟩;rw[hs] at hc hl;by_cases h16:s.size=16
   .have a0:(s.size:Int)=16:=by omega
    have HS2:H (∀ i,i<k+1->(S i).size=16):=fun i hi=>by
     by_cases e:i=k
     .subst e;rw[hs];exact h16
     .exact HS i (by omega)
    clear h16 hs;go_wp2
    go_round
    case rel=>exact⟨k+1,by omega,by go_num,HS2⟩
    case measure=>simp[intOf];omega
   .have a0:((s.size:Int) !=16)=Aw:=by simp;omega
    have HE:H (aS n S=Av):=jRb hlt (by rw[hs];exact h16);clear h16 hs;go_wp2
    go_ret
    exact⟨by rw[HE.out];rfl,rfl⟩
  .obtain rfl:k=n:=by omega
   have HE:H (aS k S=Aw):=jCq HS;go_wp2
   go_ret
   exact⟨by rw[HE.out];rfl,rfl⟩
def lvB (n:Nat) (S:Nat->BA):Bool:=aS n S&&inB (n:Int) 1 64
theorem QD (a:OA) (n cap:Nat) (S:Nat->BA) (w:Ad) (h:jL w a n S) (hn:n<=1048576) (hL:∀ i,i<n->(S i).size<=Au):CS 189 #[V a n cap] w (lvB n S):=by
 unfold Au at hL;have KH:=hd h;have KL:H (∀ i,i<n->(S i).size<=9223372036854775807):=hL;go_enter func189,ntmps189
 go_wp2
 go_loop [3] (fun i=>∃ k:Nat,k<=n/\i=Ao Ar k/\H (∀ i,i<k->(S i).size=16)) (fun i=>n-(intOf i).toNat)
 case atStart=>exact⟨0,Bi _,rfl,fun i hi=>by omega⟩
 case round=>
  obtain⟨k,hk,rfl,HS⟩:=hrel;by_cases hlt:k<n
  .obtain⟨b,off,rfl,hc⟩:=KH k hlt;have b0:(k:Int)<(n:Int):=by omega
   have hl:=KL k hlt;obtain⟨s,hs⟩:∃ s,S k=s:=⟨_,rfl⟩;rw[hs] at hc hl;by_cases h16:s.size=16
   .have a0:(s.size:Int)=16:=by omega
    have HS2:H (∀ i,i<k+1->(S i).size=16):=fun i hi=>by
     by_cases e:i=k
     .subst e;rw[hs];exact h16
     .exact HS i (by omega)
    go_wp2
    go_round
    case rel=>exact⟨k+1,by omega,by go_num,HS2⟩
    case measure=>simp[intOf];omega
   .have a0:((s.size:Int) !=16)=Aw:=by simp;omega
    have HE:H (lvB n S=Av):=by show _=_;unfold lvB;rw[jRb hlt (by rw[hs];exact h16)];rfl
    go_wp2
    go_ret
    exact⟨by rw[HE.out];rfl,rfl⟩
  .obtain rfl:k=n:=by omega
   have HE:H (lvB k S=inB (k:Int) 1 64):=by show _=_;unfold lvB;rw[jCq HS.out];rfl
   go_wp2_with (go_at_call 43;refine(jN _ _ _ _).mono ?_;rintro e w' ⟨rfl,hw⟩;obtain rfl:=hw.symm)
   go_ret
   exact⟨by rw[HE.out];rfl,rfl⟩
set_option maxRecDepth 100000 in
theorem jBm (s:BA) (w:Ad) (p0:s.size<=1048576):CB 160 #[s] w s:=by
 by_cases h0:s.size=0
 .have hs:s=⟨#[]⟩:=by
   apply ByteArray.ext
   exact Array.eq_empty_of_size_eq_zero h0
  subst hs;go_enter func160,ntmps160
  go_wp2
  go_ret
  exact⟨rfl,Az _ _⟩
 .obtain⟨i0,hi,n0,b0,o0⟩:=Cg Tryz.infoByte;have a0:(Tryz.prog.info? 5).map (·.size)=some 1:=by rw[hi];simp[b0]
  have j0:Tryz.prog.cellsOf 5=1:=by simp[Program.cellsOf,hi,b0]
  obtain⟨M,hM⟩:∃ M,M=madeCells (Ao .u8 0).cells (((s.size:Nat):Int).toNat*i0.size):=⟨_,rfl⟩;have q0:M.size=s.size:=by rw[hM,size_madeCells,b0];simp
  have s0:∀ W:Ad,(Instr.makeSlice 22 (Ao Ar (s.size:Int)) (Ao Ar (s.size:Int))).run prog W=.ok (V (Q W.1.size 0 I) s.size s.size) (W.alloc (J M 5)):=fun W=>by
   have h:=run_make (P:=prog) W 22 5 i0 (Ao .u8 0) Cr hi n0 Ar Ar (s.size:Int) (s.size:Int) (by omega) (by omega) (by rw[o0];omega) (by omega);rw[<-hM] at h;simpa using h
  clear hM;have k0:=Lib.run_copy_row_string (P:=prog) (w.alloc (J M 5)) 22 9 3 5 w 0 s.size s.size s M 5 Cr a0 (Cq w _) (Ay _) (by omega);obtain⟨Y,hY⟩:∃ Y,Y=(M.toList.take 0++Lib.byteCells s.data.toList++M.toList.drop (0+s.size)).toArray:=⟨_,rfl⟩;rw[<-hY] at k0;have c0:Y.toList=Lib.byteCells s.data.toList:=by
   rw[hY,E7,List.take_zero,En,List.drop_of_length_le (by rw[Cw];omega),List.append_nil]
  have r0:Y.size=s.size:=by rw[<-Cw,c0,Lib.byteCells_length,<-Lib.size_eq]
  have d0:((w.alloc (J M 5)).setRow w Y).1[w.1.size]?=some (J Y 5):=setRow_heap _ _ M _ 5 (0,0) (Cq w _);have m0:s.data.toList≠[]:=fun e=>h0 (by rw[Lib.size_eq,e];rfl)
  have e0:=Lib.run_unsafeString_row (P:=prog) ((w.alloc (J M 5)).setRow w Y) 221 3 9 5 underlying221 j0 w Y.size (by unfold World.shape?;rw[d0]) s.data.toList m0 (by rw[<-Lib.size_eq];omega) (by rw[<-Lib.size_eq];omega)
   (fun j x hx=>Lib.cells_of_row d0 Y.size j _ (by rw[Dl (by rw[Cw];exact Ay _),c0];simp[Lib.byteCells,hx]))
  rw[<-Lib.size_eq] at e0;clear hY;go_enter func160,ntmps160
  go_wp2
  go_ret
  have f0:Ab w w (w.alloc (J M 5)):=(Az _ w).alloc (Ay _) _;have g0:Ab w (w.alloc (J M 5)) ((w.alloc (J M 5)).setRow w Y):=⟨rfl,rfl,rfl,by simp,fun k hk=>Cd _ _ _ _ (by omega)⟩;exact⟨rfl,Lib.below_freeze (f0.trans g0) (p:=Q w 0 I) (Ay _) _⟩
theorem qO (s:BA) (w:Ad) (a0:s.size<=1048576):CB 120 #[s] w s:=by
 go_enter func120,ntmps120
 go_wp2_with fail
 refine(jBm s _ a0).mono ?_;rintro e w1 ⟨rfl,b1⟩;go_wp2
 go_ret
 exact⟨rfl,b1⟩
section
open Go.Shelf
open Gt (nb hf nm pl pr jn)
def prB (x:BA) (i n:Int) (k:Nat) (S:Nat->BA):Bool:=decide (x.size=16)&&decide ((k:Int)=plI i n)&&aS k S
def prS (x:BA) (i n:Int) (k:Nat) (S:Nat->BA):BA:=if prB x i n k S=Aw then pr x i.toNat n.toNat S 0 else ⟨#[]⟩
theorem jDp (x:BA) (i n:Int) (a:OA) (k cap:Nat) (S:Nat->BA) (w:Ad) (h:jL w a k S) (hk:k<=1048576) (hL:∀ i,i<k->(S i).size<=Au) (d0:prB x i n k S=Av):CB 204 #[x,Ao Ar i,n,V a k cap] w (Ah #[Zs,Av]):=by
 obtain⟨w1,c0⟩:=nmH (w.alloc (J #[V a k cap] 27));have K1:H (Row w1 w 27 #[V a k cap]/\Ab w w w1):=by rw[c0.out];exact⟨Row.new w _ _,(Az _ _).alloc (Ay _) _⟩
 have KP:H (∀ w0,CB 215 #[Ao Ar i,n] w0 (plI i n)):=fun w0=>XW i n w0
 have KA:H (∀ W,Ab w w W->CS 216 #[V a k cap] W (aS k S)):=fun W hb=>zF a k cap S W (h.below hb) hk hL
 have hc:=K1.1.cell 0;have g0:=K1.1.lt;simp at hc;obtain⟨r,hr⟩:∃ r,plI i n=r:=⟨_,rfl⟩;rw[hr] at KP;unfold prB at d0;rw[hr] at d0;by_cases h16:x.size=16
 .have e0:((x.size:Int) !=16)=Av:=by simp;omega
  by_cases hkr:(k:Int)=r
  .have f0:((k:Int) !=r)=Av:=by simp;exact hkr
   have i0:aS k S=Av:=by simpa [h16,hkr] using d0
   rw[i0] at KA;go_enter func204,ntmps204
   go_wp2_with fail
   rw[<-c0.out];go_region_held3 (fun w'=>w'.cell? (Q w 0 I)=M (V a k cap)) (go_keep) ((first|(go_at_call 215;refine Ax (KP _) ?_;rintro e w5 ⟨rfl,a0⟩;have b0:=jC a0;clear a0;have h0:=(b0.cell (p:=Q w 0 I) g0).trans hc)|(guard_hyp b0;go_at_call 216;refine Ax (KA _ (K1.2.trans (b0.mono K1.2.size))) ?_;rintro e w6 ⟨rfl,hw6⟩;obtain rfl:=hw6.symm)))
   go_wp2
   go_ret2
   exact⟨rfl,K1.2.trans (b0.mono K1.2.size)⟩
  .have f0:((k:Int) !=r)=Aw:=by simp;exact hkr
   go_enter func204,ntmps204
   go_wp2_with fail
   rw[<-c0.out];go_region_with (go_at_call 215;refine Ax (KP _) ?_;rintro e w5 ⟨rfl,a0⟩;have b0:=jC a0;clear a0;have h0:=(b0.cell (p:=Q w 0 I) g0).trans hc)
   all_goals go_wp2
   all_goals go_ret2
   all_goals exact⟨rfl,K1.2.trans (b0.mono K1.2.size)⟩
 .have e0:((x.size:Int) !=16)=Aw:=by simp;omega
  go_enter func204,ntmps204
  go_wp2_with fail
  rw[<-c0.out];go_quiet (fail)
  go_wp2
  go_ret2
  exact⟨rfl,xW K1.2 _⟩
end
section
def jV (T:Nat->BA) (m:Nat):Array Aj:=(sL T 64++[Ao Ar (m:Int)]).toArray
theorem vI (T:Nat->BA) (m:Nat):(jV T m).size=65:=by simp[jV,sL]
theorem vP (T:Nat->BA) (m i:Nat) (h:i<64):(jV T m)[i]?=M (Ag (T i)):=by
 unfold jV;rw[List.getElem?_toArray,Ea (by rw[qX];exact h),zB _ _ _ h]
theorem xI (T:Nat->BA) (m:Nat):(jV T m)[64]?=M (Ao Ar (m:Int)):=by
 unfold jV;rw[List.getElem?_toArray,Ds (by rw[qX];exact Ay _),qX];rfl
theorem jGr (T:Nat->BA) (m i:Nat) (s:BA) (h:i<64):(jV T m).setIfInBounds i s=jV (fun j=>if j=i then s else T j) m:=by
 apply Array.ext'
 unfold jV;rw[Array.toList_setIfInBounds,E7,E7,List.set_append_left _ _ (by rw[qX];exact h),jA8 _ _ _ _ h]
theorem jA7 {T T':Nat->BA} (m:Nat) (h:∀ i,i<64->T i=T' i):jV T m=jV T' m:=by unfold jV;rw[xR h]
theorem jM9 (T:Nat->BA) (m:Nat):(jV T m).all (·.oneCell')=Aw:=by
 unfold jV;simp[sL,Aq]
def RwV (T:Nat->BA) (m:Nat):Aj:=Ai (jV T m)
def noT:Nat->BA:=fun _=>Ap
theorem Tryz.infoRw:(Tryz.prog.info? 259).map (·.size)=M 65:=by kernel_rfl
theorem Tryz.zeroRw:(Tryz.prog.info? 259).bind (·.zero)=M (RwV noT 0):=by kernel_rfl
theorem Tryz.builtRw0:Tryz.prog.built 259 []=M (jV noT 0):=by kernel_rfl
theorem Tryz.builtRw (m:Nat):Tryz.prog.built 259 [(1,(m:Int))]=M (jV noT m):=by kernel_rfl
theorem jFb (w:Ad):(Instr.alloc 259 Aw (Ah #[])).run prog w=.ok (Af (Q w 0 I)) (w.alloc (J (jV noT 0) 259)):=by
 have hz:=Tryz.zeroRw;cases hit:Tryz.prog.info? 259 with
 | none=>simp[hit] at hz
 | some it=>
  simp[hit] at hz;have ha:(zeroValue 259).run prog w=.ok (RwV noT 0) w:=by simp[zeroValue,typeInfo,hit,hz]
  unfold Instr.alloc;simp only[E9,ha,Dz];rfl
section
variable {P:Program} {F:Fence} {n:Nat} {ops:Array Oper} {rest:List Oper} {o:Oper} {a:Act} {w:World} {Q:Exit->Act->World->Prop}
theorem jBs (hg:o.guard=I) (c0:∀ c,o.op≠.defer c) (b0:o.about P w a.eval=I) (v:Aj) (w':Ad) (a0:(execOp a.eval o).run P w=.ok (.value v) w') (h:wpListIn F n P ops Q rest (a.put o.dst v) w'):wpListIn F n P ops Q (o::rest) a w:=by
 refine wpListIn_plain hg fun K hK=>?_
 unfold Oper.wpIn;rw[Oper.semAt_plain F _ _ c0,a0,Oper.uponIn_value];exact⟨fun f hf=>(by rw[b0] at hf;cases hf),hK _ _ h⟩
theorem jPy (hg:o.guard=I) (c0:∀ c,o.op≠.defer c) (b0:o.about P w a.eval=I) (w':Ad) (a0:(execOp a.eval o).run P w=.ok .skip w') (h:wpListIn F n P ops Q rest (a.put o.dst O) w'):wpListIn F n P ops Q (o::rest) a w:=by
 refine wpListIn_plain hg fun K hK=>?_
 unfold Oper.wpIn;rw[Oper.semAt_plain F _ _ c0,a0,Oper.uponIn_skip];exact⟨fun f hf=>(by rw[b0] at hf;cases hf),hK _ _ h⟩
theorem jAi (hg:o.guard=I) (v:Aj) (w':Ad) (a0:(execOp a.eval o).run P w=.ok (.value v) w') (h:wpList P ops Q rest (a.put o.dst v) w'):wpList P ops Q (o::rest) a w:=by
 refine Gw hg fun K hK=>?_
 unfold Oper.wp;rw[a0,Oper.upon_value];exact hK _ _ h
theorem jR9 (hg:o.guard=I) (w':Ad) (a0:(execOp a.eval o).run P w=.ok .skip w') (h:wpList P ops Q rest (a.put o.dst O) w'):wpList P ops Q (o::rest) a w:=by
 refine Gw hg fun K hK=>?_
 unfold Oper.wp;rw[a0,Oper.upon_skip];exact hK _ _ h
end
section
variable {F:Fence} {n:Nat} {ops:Array Oper} {rest:List Oper} {o:Oper} {a:Act} {w:World} {Q:Exit->Act->World->Prop}
theorem jL1 (ho:o.op=.alloc 259):(execOp a.eval o).run Ac w=.ok (.value (Af (M ⟨w.1.size,0,I⟩))) (w.alloc (J (jV noT 0) 259)):=by
 unfold execOp;simp only[ho,E9,jFb,Dz];rfl
theorem jSm (x:Operand) (ho:o.op=.box 259 x) (T:Nat->ByteArray) (m:Nat) (hx:a.eval x=RwV T m):(execOp a.eval o).run Ac w=.ok (.value (Af (M ⟨w.1.size,0,I⟩))) (w.alloc (J (jV T m) 259)):=by
 unfold execOp;simp only[ho,hx,E9,Instr.box,newVar,newRow,run_newObj_alloc,Gj,Dz];rfl
theorem jPc (x:Operand) (ho:o.op=.load 259 x) (g:Nat) (hx:a.eval x=Af g) (T:Nat->BA) (m:Nat) (hr:Row w g 259 (jV T m)):(execOp a.eval o).run prog w=.ok (.value (RwV T m)) w:=by
 unfold execOp;simp only[ho,hx,Instr.loadAt,Instr.sureAddr,E9,Gj,Dz,run_loadVar_row w g 259 259 (jV T m) (0,0) _ hr underlying259 rfl (by rw[Tryz.infoRw,vI])];rfl
theorem jL2 (x y:Operand) (ho:o.op=.store 259 x y) (g:Nat) (hx:a.eval x=Af g) (T:Nat->BA) (m:Nat) (hy:a.eval y=RwV T m) (T':Nat->BA) (m':Nat) (hr:Row w g 259 (jV T' m')):(execOp a.eval o).run prog w=.ok .skip (w.setRow g (jV T m)):=by
 unfold execOp;have a0:a.eval y=Ai (jV T m):=hy;simp only[ho,hx,a0,Instr.storeAt,Instr.sureAddr,E9,Gj,Dz,run_storeVar_row w g 259 259 (jV T' m') (jV T m) hr (by rw[Tryz.infoRw,vI]) (by rw[vI,vI]) (jM9 T m)]
theorem jQ2 (x:Operand) (ho:o.op=.build 259 #[(1,x)]) (m:Nat) (hx:a.eval x=Ao Ar (m:Int)):(execOp a.eval o).run prog w=.ok (.value (RwV noT m)) w:=by
 have hb:=run_build (P:=prog) w 259 #[(1,(m:Int))] (jV noT m) (Tryz.builtRw m);unfold execOp;simp[ho,hx,hb];rfl
theorem jN2 (ho:o.op=.build 259 #[]):(execOp a.eval o).run prog w=.ok (.value (RwV noT 0)) w:=by
 have hb:=run_build (P:=prog) w 259 #[] (jV noT 0) Tryz.builtRw0;unfold execOp;simp[ho,hb];rfl
theorem xT (hg:o.guard=I) (ho:o.op=.alloc 259) (h:wpList Ac ops Q rest (a.put o.dst (Af (M ⟨w.1.size,0,I⟩))) (w.alloc (J (jV noT 0) 259))):wpList Ac ops Q (o::rest) a w:=jAi hg _ _ (jL1 ho) h
theorem jS8 (hg:o.guard=I) (x:Operand) (ho:o.op=.box 259 x) (T:Nat->ByteArray) (m:Nat) (hx:a.eval x=RwV T m) (h:wpList Ac ops Q rest (a.put o.dst (Af (M ⟨w.1.size,0,I⟩))) (w.alloc (J (jV T m) 259))):wpList Ac ops Q (o::rest) a w:=jAi hg _ _ (jSm x ho T m hx) h
theorem jGl (hg:o.guard=I) (x:Operand) (ho:o.op=.load 259 x) (g:Nat) (hx:a.eval x=Af g) (T:Nat->BA) (m:Nat) (hr:Row w g 259 (jV T m)) (h:wpList prog ops Q rest (a.put o.dst (RwV T m)) w):wpList prog ops Q (o::rest) a w:=jAi hg _ _ (jPc x ho g hx T m hr) h
theorem vW (hg:o.guard=I) (x y:Operand) (ho:o.op=.store 259 x y) (g:Nat) (hx:a.eval x=Af g) (T:Nat->BA) (m:Nat) (hy:a.eval y=RwV T m) (T':Nat->BA) (m':Nat) (hr:Row w g 259 (jV T' m')) (h:wpList prog ops Q rest (a.put o.dst O) (w.setRow g (jV T m))):wpList prog ops Q (o::rest) a w:=jR9 hg _ (jL2 x y ho g hx T m hy T' m' hr) h
theorem jKp (hg:o.guard=I) (x:Operand) (ho:o.op=.build 259 #[(1,x)]) (m:Nat) (hx:a.eval x=Ao Ar (m:Int)) (h:wpList prog ops Q rest (a.put o.dst (RwV noT m)) w):wpList prog ops Q (o::rest) a w:=jAi hg _ _ (jQ2 x ho m hx) h
theorem jB0 (hg:o.guard=I) (ho:o.op=.build 259 #[]) (h:wpList prog ops Q rest (a.put o.dst (RwV noT 0)) w):wpList prog ops Q (o::rest) a w:=jAi hg _ _ (jN2 ho) h
theorem jJq (hg:o.guard=I) (ho:o.op=.alloc 259) (h:wpListIn F n Ac ops Q rest (a.put o.dst (Af (M ⟨w.1.size,0,I⟩))) (w.alloc (J (jV noT 0) 259))):wpListIn F n Ac ops Q (o::rest) a w:=jBs hg (by rw[ho];intro c hc;cases hc) (by simp[Oper.about,ho]) _ _ (jL1 ho) h
theorem jS1 (hg:o.guard=I) (x:Operand) (ho:o.op=.box 259 x) (T:Nat->ByteArray) (m:Nat) (hx:a.eval x=RwV T m) (h:wpListIn F n Ac ops Q rest (a.put o.dst (Af (M ⟨w.1.size,0,I⟩))) (w.alloc (J (jV T m) 259))):wpListIn F n Ac ops Q (o::rest) a w:=jBs hg (by rw[ho];intro c hc;cases hc) (by simp[Oper.about,ho]) _ _ (jSm x ho T m hx) h
theorem jJr (hg:o.guard=I) (x:Operand) (ho:o.op=.load 259 x) (g:Nat) (hx:a.eval x=Af g) (T:Nat->BA) (m:Nat) (hr:Row w g 259 (jV T m)) (h:wpListIn F n prog ops Q rest (a.put o.dst (RwV T m)) w):wpListIn F n prog ops Q (o::rest) a w:=jBs hg (by rw[ho];intro c hc;cases hc) (by simp[Oper.about,ho]) _ _ (jPc x ho g hx T m hr) h
theorem jEt (hg:o.guard=I) (x y:Operand) (ho:o.op=.store 259 x y) (g:Nat) (hx:a.eval x=Af g) (T:Nat->BA) (m:Nat) (hy:a.eval y=RwV T m) (T':Nat->BA) (m':Nat) (hr:Row w g 259 (jV T' m')) (h:wpListIn F n prog ops Q rest (a.put o.dst O) (w.setRow g (jV T m))):wpListIn F n prog ops Q (o::rest) a w:=jPy hg (by rw[ho];intro c hc;cases hc) (by simp[Oper.about,ho]) _ (jL2 x y ho g hx T m hy T' m' hr) h
end
end
section
open Gt (nb hf up jn)
def jEg (k m:Nat) (T:Nat->BA):Nat->BA:=fun i=>if i<k then up m T i else Ap
theorem jE9 {fn:Func} {p:Tmp} (h:fn.results=#[.cell p 259]) (a0:Array Aj) (w:Ad) (g:Nat) (T:Nat->BA) (m:Nat) (hp:a0.getD p O=Af g) (hr:Row w g 259 (jV T m)):(results fn a0).run prog w=.ok (RwV T m) w:=
 Ck h a0 w g 259 (jV T m) (0,0) _ hp hr underlying259 rfl (by rw[Tryz.infoRw,vI])
theorem jG4 (k m:Nat) (T:Nat->BA) (s:BA) (hs:s=up m T k):(fun j=>if j=k then s else jEg k m T j)=jEg (k+1) m T:=by
 funext j
 unfold jEg;by_cases e:j=k
 .subst e;simp[hs]
 .by_cases e2:j<k
  .simp[e,e2,show j<k+1 by omega]
  .simp[e,e2,show ¬ j<k+1 by omega]
theorem jL0 (k m:Nat) (T:Nat->BA) (r s:BA) (hs:s=up m T k):(fun j=>if j=k then s else (if j=k then r else jEg k m T j))=jEg (k+1) m T:=by
 rw[<-jG4 k m T s hs];funext j
 by_cases e:j=k <;> simp[e]
theorem jDr (T:Nat->BA) (m:Nat) (w:Ad) (hm:1<=m) (j1:m<=64) (hS:∀ i,i<m->(T i).size=16):CB 251 #[RwV T m] w (RwV (up m T) (hf m)):=by
 have hq:hf m<=32:=by unfold hf;omega
 have x0:hf m<=m:=by unfold hf;omega
 obtain⟨q,Hq⟩:=nnH (hf m);have KA:H (∀ W,CS 242 #[(m:Int)] W (q:Int)):=fun W=>by rw[<-Hq.out];exact XA m W (by omega)
 rw[Hq.out] at hq x0 |-;obtain⟨B,hB⟩:∃ B,w.1.size=B:=⟨_,rfl⟩;obtain⟨w1,k0⟩:=nmH (w.alloc (J (jV T m) 259));have K1:H (Row w1 B 259 (jV T m)/\Ab B w w1/\w1.1.size=B+1):=by rw[k0.out,<-hB];exact⟨Row.new w _ _,(Az _ _).alloc (Ay _) _,by simp⟩
 obtain⟨w2,m0⟩:=nmH (w1.alloc (J (jV noT 0) 259));have K2:H (Row w2 B 259 (jV T m)/\Row w2 (B+1) 259 (jV noT 0)/\Ab B w w2/\w2.1.size=B+2):=by
  rw[m0.out];have h1:=K1.2.2;refine⟨K1.1.alloc _,?_,K1.2.1.alloc (by omega) _,by simp;omega⟩;have:=Row.new w1 (jV noT 0) 259
  rw[h1] at this;exact this
 obtain⟨w3,n0⟩:=nmH (w2.alloc (J (jV noT q) 259));have u0:H ((w2.alloc (J (jV noT 0) 259)).setRow w2 (jV noT q)=w3):=by rw[n0.out];exact qK _ _ _ _
 have K3:H (Row w3 B 259 (jV T m)/\Row w3 (B+1) 259 (jV noT 0)/\Row w3 (B+2) 259 (jV noT q)/\Ab B w w3):=by
  rw[n0.out];have h1:=K2.2.2.2;refine⟨K2.1.alloc _,K2.2.1.alloc _,?_,K2.2.2.1.alloc (by omega) _⟩;have:=Row.new w2 (jV noT q) 259
  rw[h1] at this;exact this
 have x1:=K1.2.2;have y1:=K2.2.2.2;have v0:w2.cell? (Q B 64 I)=M (Ao Ar (m:Int)):=by rw[K2.out.1.cell 64,xI]
 have o1:w3.cell? (Q (B+2) 64 I)=M (Ao Ar (q:Int)):=by rw[K3.out.2.2.1.cell 64,xI]
 have KT:H (∀ i,i<m->(T i).size=16):=hS;go_enter func251,ntmps251
 go_wp2_with (first|(refine jS8 rfl _ rfl T m rfl ?_;rw[<-k0.out])|(refine xT rfl rfl ?_;first|rw[<-m0.out]|skip)|(refine jKp rfl _ rfl q rfl ?_)|(refine vW rfl _ _ rfl w2 rfl noT q rfl noT 0 (Row.new w2 _ _) ?_;rw[u0.out])|(go_at_call 242;refine(KA _).mono ?_;rintro e w' ⟨rfl,hw⟩;obtain rfl:=hw.symm))
 go_loopw [14] (fun vi wr=>∃ k:Nat,k<=q/\vi=Ao Ar (k:Int)/\Row wr B 259 (jV T m)/\Row wr (B+1) 259 (jV noT 0)/\Row wr (B+2) 259 (jV (jEg k m T) q)/\Ab B w wr) (fun vi _=>q-(intOf vi).toNat)
 case atStart=>
  refine⟨0,Bi _,rfl,K3.1,K3.2.1,?_,K3.2.2.2⟩;have:=K3.2.2.1
  rw[jA7 q (T':=jEg 0 m T) (fun i _=>by simp[noT,jEg])] at this;exact this
 case round=>
  obtain⟨k,hk,rfl,r0,r1,r2,d0⟩:=hrel;by_cases hlt:k<q
  .have i1:(k:Int)<(q:Int):=by omega
   have q1:2*k<m:=by have:=Hq.out;unfold hf at this;omega
   have v0:wr.cell? (Q B 64 I)=M (Ao Ar (m:Int)):=by rw[r0.cell 64,xI]
   obtain⟨p,hp⟩:∃ p,2*k=p:=⟨_,rfl⟩;have v1:IntKind.i64.wrap (2*(k:Int))=(p:Int):=by rw[A8];omega
   have n1:(p:Int)<64:=by omega
   have q0:p<m:=by omega
   have f0:k<64:=by omega
   have f1:(k:Int)<64:=by omega
   obtain⟨R,hR⟩:∃ R,wr.1.size=R:=⟨_,rfl⟩;have u1:B+2<R:=by have:=r2.lt;omega
   obtain⟨w4,o0⟩:=nmH (wr.alloc (J #[(p:Int),(m:Int)] 243));have K4:H (Row w4 B 259 (jV T m)/\Row w4 (B+1) 259 (jV noT 0)/\Row w4 (B+2) 259 (jV (jEg k m T) q)/\Row w4 R 243 #[(p:Int),(m:Int)]/\Ab B w w4):=by
    rw[o0.out,<-hR];exact⟨r0.alloc _,r1.alloc _,r2.alloc _,Row.new wr _ _,d0.alloc (by omega) _⟩
   obtain⟨w5,p0⟩:=nmH ((wr.setCell (Q (B+2) k I) (T p)).alloc (J #[(p:Int),(m:Int)] 243));have K5:H (Row w5 B 259 (jV T m)/\Row w5 (B+1) 259 (jV noT 0)/\Row w5 (B+2) 259 (jV (fun j=>if j=k then T p else jEg k m T j) q)/\Row w5 R 243 #[(p:Int),(m:Int)]/\Ab B w w5):=by
    rw[p0.out];refine⟨(r0.other _ _ (by omega)).alloc _,(r1.other _ _ (by omega)).alloc _,?_,?_,(d0.setCell (by simp) _).alloc (by simp;omega) _⟩
    .have:=r2.set k (T p)
     rw[jGr _ _ _ _ (by omega)] at this;exact this.alloc _
    .have:=Row.new (wr.setCell (Q (B+2) k I) (T p)) #[(p:Int),(m:Int)] 243
     rw[show (wr.setCell (Q (B+2) k I) (T p)).1.size=R by simp[hR]] at this;exact this
   have e0:=K4.2.2.2.1.cell 0;have e1:w4.cell? (Q B p I)=M (Ag (T p)):=by rw[K4.out.1.cell p,vP _ _ _ (by omega)]
   have e2:w4.cell? (Q (B+2) k I)=M (Ag (jEg k m T k)):=by rw[K4.out.2.2.1.cell k,vP _ _ _ (by omega)]
   have g2:=K4.2.2.1.free k;obtain⟨s0,s1⟩:=K5.2.2.2.1.c2 0 1;simp at e0 s0 s1;generalize jEg k m T k=old at e2;obtain⟨tp,h0⟩:∃ tp,T p=tp:=⟨_,rfl⟩;rw[h0] at e1;have i0:H ((wr.setCell (Q (B+2) k I) (Ag tp)).alloc (J #[(p:Int),(m:Int)] 243)=w5):=by show _=_;rw[p0.out,h0]
   rw[<-i0.out] at s0 s1;rw[o0.out] at e0 e1 e2 g2;have KN:H (∀ w0,CB 230 #[SpV (p:Int) (m:Int)] w0 (Ah #[Ao Ar ((p+1:Nat):Int),(decide (p+1<m))])):=by
    have y0:nb p=p+1:=by unfold nb;rw[A6 (by omega)]
    have:=fun w0=>xB p m w0 (by omega)
    rw[y0] at this;exact this
   obtain⟨p1,b1⟩:∃ p1,p+1=p1:=⟨_,rfl⟩;rw[b1] at KN;go_wp2_with fail
   rw[i0.out];refine(KN _).mono ?_;rintro e w6 ⟨rfl,c0⟩;have K6:H (Row w6 B 259 (jV T m)/\Row w6 (B+1) 259 (jV noT 0)/\Row w6 (B+2) 259 (jV (fun j=>if j=k then T p else jEg k m T j) q)/\Row w6 R 243 #[(p:Int),(m:Int)]/\Ab B w w6):=by
    obtain⟨a0,a1,a2,a3,a4⟩:=K5.out;exact⟨a0.below c0 a0.lt,a1.below c0 a1.lt,a2.below c0 a2.lt,a3.below c0 a3.lt,a4.trans (c0.mono (by have:=a0.lt;omega))⟩
   by_cases hok:p1<m
   .have hd:decide (p1<m)=Aw:=by simpa using hok
    have HU:H (jn tp (T p1)=up m T k):=by
     show _=_;unfold up;rw[A6 (by omega),show 2*k+1=p1 by omega,hp,h0]
    obtain⟨t1,t0⟩:∃ t1,T p1=t1:=⟨_,rfl⟩;have z0:=KT p q0;have z1:=KT p1 hok;rw[h0] at z0;rw[t0] at z1 HU;have HJ:H (∀ w0,CB 218 #[Ag tp,Ag t1] w0 (jn tp t1)):=fun w0=>jBt _ _ w0 (by omega) (by omega)
    have e0:=K6.2.2.2.1.cell 0;have e1:w6.cell? (Q B p I)=M (Ag tp):=by rw[K6.out.1.cell p,vP _ _ _ (by omega),h0]
    have e2:w6.cell? (Q B p1 I)=M (Ag t1):=by rw[K6.out.1.cell p1,vP _ _ _ (by omega),t0]
    have c1:(p1:Int)<64:=by omega
    simp at e0;have lB:=K6.1.lt;have k1:¬ R=B+2:=by omega
    have m1:¬ B+2=R:=by omega
    have lR:=K6.2.2.2.1.lt;generalize jn tp t1=z at HJ HU;go_wp2_with fail
    go_region_held3 (fun w'=>w'.cell? (Q R 0 I)=M (Ao Ar (p:Int))/\w'.cell? (Q B p I)=M (Ag tp)/\w'.cell? (Q B p1 I)=M (Ag t1)) (go_keep) ((go_at_call 218;refine Ax (HJ _) ?_;rintro e w9 ⟨rfl,j0⟩;have b0:=jC j0;clear j0;have g0:=(b0.cell (p:=Q R 0 I) lR).trans e0;have g1:=(b0.cell (p:=Q B p I) lB).trans e1;have g2:=(b0.cell (p:=Q B p1 I) lB).trans e2;have g3:=(K6.2.2.1.below b0 K6.2.2.1.lt).cell k;have g4:=(K6.2.2.1.below b0 K6.2.2.1.lt).free k;rw[vP _ _ _ f0] at g3))
    have HR:H (Row (w9.setCell (Q (B+2) k I) z) B 259 (jV T m)/\Row (w9.setCell (Q (B+2) k I) z) (B+1) 259 (jV noT 0)/\Row (w9.setCell (Q (B+2) k I) z) (B+2) 259 (jV (jEg (k+1) m T) q)/\Ab B w (w9.setCell (Q (B+2) k I) z)):=by
     obtain⟨a0,a1,a2,a3,a4⟩:=K6.out;refine⟨(a0.below b0 a0.lt).other _ _ (by omega),(a1.below b0 a1.lt).other _ _ (by omega),?_,(a4.trans (b0.mono (G9 a0.lt))).setCell (by simp) _⟩;have:=(a2.below b0 a2.lt).set k z
     rw[jGr _ _ _ _ f0,jL0 k m T _ _ HU.out] at this;exact this
    go_wp2
    go_roundw
    case rel=>exact⟨k+1,by omega,by go_num,HR.out.1,HR.out.2.1,HR.out.2.2.1,HR.2.2.2⟩
    case measure=>simp[intOf];omega
   .have hd:decide (p1<m)=Av:=by simpa using hok
    have HU:H (T p=up m T k):=by
     show _=_;unfold up;rw[A5 (by omega),A6 (by omega),hp]
    have HR:H (Row w6 (B+2) 259 (jV (jEg (k+1) m T) q)):=by
     have:=K6.2.2.1
     rw[jG4 k m T _ HU.out] at this;exact this
    go_wp2
    go_roundw
    case rel=>exact⟨k+1,by omega,by go_num,K6.out.1,K6.out.2.1,HR.out,K6.2.2.2.2⟩
    case measure=>simp[intOf];omega
  .obtain rfl:k=q:=by omega
   have HE:H (jV (jEg k m T) k=jV (up m T) k):=by
    show _=_;refine jA7 k (fun i _=>?_);unfold jEg;by_cases e:i<k
    .rw[A6 e]
    .rw[A5 e,Gt.up_pad m T i (by have:=Hq.out;omega)]
   rw[HE.out] at r2;have HF:H (Row (wr.setRow (B+1) (jV (up m T) k)) (B+1) 259 (jV (up m T) k)/\Ab B w (wr.setRow (B+1) (jV (up m T) k))):=⟨r1.row,jF d0 (by omega) _⟩;go_wp2_with (first|(refine jGl rfl _ rfl (B+2) rfl (up m T) k r2 ?_)|(refine vW rfl _ _ rfl (B+1) rfl (up m T) k rfl noT 0 r1 ?_))
   refine B7 (jE9 results251 _ _ (B+1) (up m T) k rfl HF.1) rfl ⟨rfl,?_⟩;rw[hB];exact HF.2
end
def jAj (n:Nat) (S:Nat->BA):Nat->BA:=fun i=>if i<n then S i else Ap
theorem jKz (S:Nat->BA) (n:Nat) (hn:n<=64):((jV noT n).toList.take 0++sL S n++(jV noT n).toList.drop (0+(sL S n).length)).toArray=jV (jAj n S) n:=by
 apply Array.ext'
 apply Co
 intro i;rw[E7,List.take_zero,En,qX,Bt];have e:(jV (jAj n S) n).toList[i]?=(jV (jAj n S) n)[i]?:=Gd ..;have e0:∀ j,(jV noT n).toList[j]?=(jV noT n)[j]?:=fun j=>Gd ..
 rw[e];by_cases h1:i<n
 .rw[Ea (by rw[qX];exact h1),zB _ _ _ h1,vP _ _ _ (by omega)];simp[jAj,h1]
 .rw[Ds (by rw[qX];omega),qX,List.getElem?_drop,show n+(i-n)=i by omega,e0];by_cases h2:i<64
  .rw[vP _ _ _ h2,vP _ _ _ h2];simp[jAj,noT,h1]
  .by_cases h3:i=64
   .subst h3;rw[xI,xI]
   .rw[Array.getElem?_eq_none (by rw[vI];omega),Array.getElem?_eq_none (by rw[vI];omega)]
theorem qY {fn:Func} {p q:Tmp} (h:fn.results=#[.cell p 259,.tmp q]) (a0:Array Aj) (w:Ad) (g:Nat) (T:Nat->BA) (m:Nat) (v:Aj) (hp:a0.getD p O=Af g) (hq:a0.getD q O=v) (hr:Row w g 259 (jV T m)):(results fn a0).run prog w=.ok (Ah #[RwV T m,v]) w:=by
 have b0:a0[p]?.getD O=Af g:=by simpa using hp
 have c0:a0[q]?.getD O=v:=by simpa using hq
 simp[results,h,b0,c0,asAddr,run_loadVar_row w g 259 259 (jV T m) (0,0) _ hr Tryz.underlying259 rfl (by rw[Tryz.infoRw,vI])];rfl
theorem jA3 (a:OA) (n cap:Nat) (S:Nat->BA) (w:Ad) (h:jL w a n S) (hn:n<=1048576) (hL:∀ i,i<n->(S i).size<=Au) (b0:lvB n S=Av):CB 240 #[V a n cap] w (Ah #[RwV noT 0,Av]):=by
 obtain⟨w1,a0⟩:=nmH (w.alloc (J (jV noT 0) 259));have K1:H (Row w1 w 259 (jV noT 0)/\Ab w w w1):=by rw[a0.out];exact⟨Row.new w _ _,(Az _ _).alloc (Ay _) _⟩
 have KA:=hd (zF a n cap S w1 (h.below K1.2) hn hL);have HF:H (Row (w1.setRow w (jV noT 0)) w 259 (jV noT 0)/\Ab w w (w1.setRow w (jV noT 0))):=⟨K1.1.row,jF K1.2 (Ay _) _⟩;by_cases h1:n<1
 .have c0:(n:Int)<1:=by omega
  go_enter func240,ntmps240
  go_wp2_with (first|(refine xT rfl rfl ?_;rw[<-a0.out])|(refine jB0 rfl rfl ?_)|(refine vW rfl _ _ rfl w rfl noT 0 rfl noT 0 K1.1 ?_))
  refine B7 (qY results240 _ _ w noT 0 _ rfl rfl HF.1) rfl ⟨rfl,HF.2⟩
 .have c0:¬ (n:Int)<1:=by omega
  by_cases h2:64<n
  .have d0:(64:Int)<(n:Int):=by omega
   go_enter func240,ntmps240
   go_wp2_with (first|(refine xT rfl rfl ?_;rw[<-a0.out])|(refine jB0 rfl rfl ?_)|(refine vW rfl _ _ rfl w rfl noT 0 rfl noT 0 K1.1 ?_))
   refine B7 (qY results240 _ _ w noT 0 _ rfl rfl HF.1) rfl ⟨rfl,HF.2⟩
  .have d0:¬ (64:Int)<(n:Int):=by omega
   have e0:aS n S=Av:=by
    unfold lvB at b0;rw[QN (by omega)] at b0;simpa using b0
   rw[e0] at KA;go_enter func240,ntmps240
   go_wp2_with (first|(refine xT rfl rfl ?_;rw[<-a0.out])|(refine jB0 rfl rfl ?_)|(refine vW rfl _ _ rfl w rfl noT 0 rfl noT 0 K1.1 ?_)|(go_at_call 216;refine KA.mono ?_;rintro e w' ⟨rfl,hw⟩;obtain rfl:=hw.symm))
   refine B7 (qY results240 _ _ w noT 0 _ rfl rfl HF.1) rfl ⟨rfl,HF.2⟩
theorem JY (a:OA) (n cap:Nat) (S:Nat->BA) (w:Ad) (h:jL w a n S) (a0:lvB n S=Aw):CB 240 #[V a n cap] w (Ah #[RwV (jAj n S) n,Aw]):=by
 unfold lvB at a0;rw[Cs] at a0;have hn:1<=n/\n<=64:=by
  have:=a0.2
  unfold inB at this;simp at this;omega
 have hS:=jIw.1 a0.1;obtain⟨w1,b0⟩:=nmH (w.alloc (J (jV noT 0) 259));have K1:H (Row w1 w 259 (jV noT 0)/\Ab w w w1/\w1.1.size=w.1.size+1):=by rw[b0.out];exact⟨Row.new w _ _,(Az _ _).alloc (Ay _) _,by simp⟩
 have KA:H (CS 216 #[V a n cap] w1 Aw):=by
  have:=zF a n cap S w1 (h.below K1.2.1) (by omega) (fun i hi=>by rw[hS i hi];unfold Au;omega)
  rw[a0.1] at this;exact this
 obtain⟨w2,c0⟩:=nmH (w1.alloc (J (jV noT n) 259));have e0:H ((w1.alloc (J (jV noT 0) 259)).setRow w1 (jV noT n)=w2):=by rw[c0.out];exact qK _ _ _ _
 have K2:H (Row w2 w 259 (jV noT 0)/\Row w2 (w.1.size+1) 259 (jV noT n)/\Ab w w w2):=by
  rw[c0.out];refine⟨K1.1.alloc _,?_,K1.2.1.alloc (by have:=K1.2.2;omega) _⟩;have:=Row.new w1 (jV noT n) 259
  rw[K1.out.2.2] at this;exact this
 obtain⟨b,off,rfl,f0⟩:=(h.below K2.2.2).some (by omega);obtain⟨w3,d0⟩:=nmH (w2.setRow (w.1.size+1) (jV (jAj n S) n));have K3:H (Row w3 w 259 (jV noT 0)/\Row w3 (w.1.size+1) 259 (jV (jAj n S) n)/\Ab w w w3):=by
  rw[d0.out];exact⟨K2.1.otherRow (by omega),K2.out.2.1.row,jF K2.out.2.2 (by omega) _⟩
 have i0:(Builtin.copy_ #[27,27] 3 #[V (Q (w.1.size+1) 0 I) 64 64,V (Q b off I) n cap]).run prog w2=.ok (goInt n) w3:=by
  have:=run_copy_row (P:=prog) w2 27 27 3 9 (w.1.size+1) 0 64 64 (Q b off I) n cap (jV noT n) 259 (sL S n) C3 (by
    have:=Tryz.infoStr
    cases hi:Tryz.prog.info? 9 with
    | none=>rw[hi] at this;simp at this
    | some i=>rw[hi] at this;simp at this;simp[this.2.1]) K2.2.1 (by rw[qX];exact(Nat.min_eq_left hn.2).symm) (fun j v hv=>by
    have hj:j<n:=by
     have:=(Ca.1 hv).1
     rwa [qX] at this
    rw[zB _ _ _ hj] at hv;cases hv;have ea:((Q b off I):Al).add j=(Q b (off+j) I):=by unfold Addr.add;split <;> simp_all
    rw[ea];exact f0 j hj) (by rw[qX,vI];omega) (fun v hv=>by
    unfold sL at hv;simp at hv;obtain⟨i,_,rfl⟩:=hv;rfl)
  rw[jKz S n hn.2,qX,<-d0.out] at this;exact this
 have g0:¬ (n:Int)<1:=by omega
 have h0:¬ (64:Int)<(n:Int):=by omega
 have HF:H (Row (w3.setRow w (jV (jAj n S) n)) w 259 (jV (jAj n S) n)/\Ab w w (w3.setRow w (jV (jAj n S) n))):=⟨K3.1.row,jF K3.2.2 (Ay _) _⟩;have j0:=K1.2.2;go_enter func240,ntmps240
 go_wp2_with (first|(refine xT rfl rfl ?_;first|rw[<-b0.out]|skip)|(refine jKp rfl _ rfl n rfl ?_)|(refine vW rfl _ _ rfl w1 rfl noT n rfl noT 0 (Row.new w1 _ _) ?_;rw[e0.out])|(refine jGl rfl _ rfl (w.1.size+1) rfl (jAj n S) n K3.2.1 ?_)|(refine vW rfl _ _ rfl w rfl (jAj n S) n rfl noT 0 K3.1 ?_)|(go_at_call 216;refine KA.mono ?_;rintro e w' ⟨rfl,hw⟩;obtain rfl:=hw.symm))
 refine B7 (qY results240 _ _ w (jAj n S) n _ rfl rfl HF.1) rfl ⟨rfl,HF.2⟩
section
open Go.Shelf
open Gt (nb hf nm pl pr jn)
theorem jDq {w W2 w9:Ad} {b0 B c c1:Nat} {v:Aj} {y z:BA} (c0:Ab b0 w W2) (a0:Ab W2 W2 w9) (r0:Row W2 b0 27 #[v]) (r1:Row W2 B 9 #[y]) (r2:Row W2 (B+1) 3 #[(c:Int)]) (hB:b0<B):H (Row (w9.setCell B z) (B+1) 3 #[(c:Int)]/\W2.1.size<=((w9.setCell B z).setCell (Q (B+1) 0 I) (c1:Int)).1.size/\(∀ j,B+2<=j->j<W2.1.size->((w9.setCell B z).setCell (Q (B+1) 0 I) (c1:Int)).1[j]?=W2.1[j]?)/\Ab b0 w ((w9.setCell B z).setCell (Q (B+1) 0 I) (c1:Int))/\Row ((w9.setCell B z).setCell (Q (B+1) 0 I) (c1:Int)) b0 27 #[v]/\Row ((w9.setCell B z).setCell (Q (B+1) 0 I) (c1:Int)) B 9 #[z]/\Row ((w9.setCell B z).setCell (Q (B+1) 0 I) (c1:Int)) (B+1) 3 #[(c1:Int)]):=by
 have s0:=r0.below a0 r0.lt;have s1:=r1.below a0 r1.lt;have s2:=r2.below a0 r2.lt;have t2:=s2.other (k:=B) 0 z (by omega);refine⟨t2,by simpa using a0.size,fun j h1 h2=>?_,?_,(s0.other 0 _ (by omega)).other 0 _ (by omega),(s1.set 0 z).other 0 _ (by omega),t2.set 0 (c1:Int)⟩
 .rw[Dg _ _ _ _ (by simp;omega),Dg _ _ _ _ (by simp;omega)];exact a0.block j h2
 .exact((c0.trans (a0.mono (G9 r0.lt))).setCell (by simp;omega) _).setCell (by simp;omega) _
theorem jDo (x:BA) (i n:Nat) (a:OA) (k cap:Nat) (S:Nat->BA) (w:Ad) (h:jL w a k S) (s0:inT (i:Int) (n:Int)=Aw) (hx:x.size=16) (hk:k=pl i n) (hS:∀ j,j<k->(S j).size=16):CB 204 #[x,(i:Int),(n:Int),V a k cap] w (Ah #[(pr x i n S 0),Aw]):=by
 have hi:i<n/\n<=64:=by simp[inT] at s0;omega
 have q1:k<=6:=by rw[hk];exact Gt.pl_le 6 _ _ (by omega)
 have b1:plI (i:Int) (n:Int)=(k:Int):=by unfold plI;rw[A6 s0,hk];simp
 obtain⟨w1,t0⟩:=nmH (w.alloc (J #[V a k cap] 27));have K1:H (Row w1 w 27 #[V a k cap]/\Ab w w w1):=by rw[t0.out];exact⟨Row.new w _ _,(Az _ _).alloc (Ay _) _⟩
 have KP:H (∀ w0,CB 215 #[(i:Int),(n:Int)] w0 (k:Int)):=fun w0=>by rw[<-b1];exact XW _ _ w0
 have KA:H (∀ W,Ab w w W->CS 216 #[V a k cap] W Aw):=fun W hb=>by
  rw[<-jCq hS];exact zF a k cap S W (h.below hb) (by omega) (fun i hi=>by rw[hS i hi];unfold Au;omega)
 have KC:H (∀ w0,CB 120 #[x] w0 x):=fun w0=>qO x w0 (by omega)
 have KH:H (jL w a k S):=h;have KS:H (∀ j,j<k->(S j).size=16):=hS;have Kk:H (k=pl i n):=hk;have hc:=K1.1.cell 0;have g0:=K1.1.lt;simp at hc;have v0:((x.size:Int) !=16)=Av:=by simp;omega
 have a1:((k:Int) !=(k:Int))=Av:=by simp
 have Hx:H (x.size=16):=hx;clear h hS hk b1 s0 hx;refine(Dv (n:=2)).1 (callsIn_of_wp_marks func204 rfl trivial (wpIn_wide.2 ?_) rfl);simp only[ntmps204,E0,Fr,Gb,Nat.reduceAdd,Nat.reduceSub,Es,Et,Fj,E6,En,Fa];go_wp2_with fail
 rw[<-t0.out];go_region_held3 (fun w'=>w'.cell? (Q w 0 I)=M (V a k cap)) (go_keep) ((first|(go_at_call 215;refine Ax (KP _) ?_;rintro e w5 ⟨rfl,p0⟩;have a0:=jC p0;clear p0;have i1:=(a0.cell (p:=Q w 0 I) g0).trans hc)|(guard_hyp a0;go_at_call 216;refine Ax (KA _ (K1.2.trans (a0.mono K1.2.size))) ?_;rintro e w6 ⟨rfl,hw6⟩;obtain rfl:=hw6.symm)))
 go_wp2_with fail
 refine(KC _).mono ?_;rintro e w7 ⟨rfl,o0⟩;have HB:H (Ab w w w7/\w.1.size<w7.1.size):=by
  have h1:=K1.2.trans (a0.mono K1.2.size);have h2:=h1.trans (o0.mono h1.size);refine⟨h2,?_⟩;have:=a0.size
  have:=o0.size
  omega
 have HR:H (Row w7 w 27 #[V a k cap]):=(K1.1.below a0 g0).below o0 (Bu g0 a0.size);go_wp2
 obtain⟨B,hB⟩:∃ B,w7.1.size=B:=⟨_,rfl⟩;obtain⟨w8,u0⟩:=nmH ((w7.alloc (J #[x] 9)).alloc (J #[()] 3));have HN:H (Row w8 w 27 #[V a k cap]/\Row w8 B 9 #[x]/\Row w8 (B+1) 3 #[Ao Ar ((0:Nat):Int)]/\Ab w w w8/\w8.1.size=B+2/\w.1.size<B):=by
  rw[u0.out,<-hB];refine⟨(HR.alloc _).alloc _,(Row.new w7 _ _).alloc _,?_,(HB.1.alloc HB.1.size _).alloc (by have:=HB.1.size;simp;omega) _,by simp,HB.out.2⟩;have:=Row.new (w7.alloc (J #[x] 9)) #[Ao Ar ((0:Nat):Int)] 3
  rw[show (w7.alloc (J #[x] 9)).1.size=w7.1.size+1 by simp] at this;exact this
 rw[<-u0.out,hB];clear hB HB HR a0 o0 i1 hc g0 v0 a1;refine(wpIn_wide (n:=2)).1 ?_;refine zP (recv:=SpV (i:Int) (n:Int)) (gf:=217) rfl (enters_of func217 (by kernel_rfl) rfl) (jA2 i n hi.1 hi.2) (fun _=>rfl)
  (fun s W=>Ab w w W/\Row W w 27 #[V a k cap]/\∃ (y:BA) (c:Nat),Row W B 9 #[y]/\Row W (B+1) 3 #[(c:Int)]/\y.size=16/\c+pl s.1 s.2=k/\pr y s.1 s.2 S c=pr x i n S 0) ?abide ?start ?round ?done
 case abide=>
  rintro s A A' j h1 h2 ⟨hb,m0,y,c,h0,n0,hy,hc,hp⟩ hg;have hn:=HN.2.2.2.2;exact⟨qG hb hg hb.size (by omega),m0.grown hg (by omega),y,c,h0.grown hg (by omega),n0.grown hg (by omega),hy,hc,hp⟩
 case start=>
  obtain⟨h1,h2,h3,h4,_,_⟩:=HN.out;exact⟨h4,h1,x,0,h2,h3,Hx,by rw[Gt.pl_nm,Bt];exact Kk.symm,by rw[Gt.pr_nm]⟩
 case round=>
  rintro l s W f0 ⟨hb,m0,y,c,h0,n0,hy,hc,hp⟩ g0;have m1:=Oper.semAt_some;have p1:=jEh;have o1:=JD;gi_wp2
  refine⟨F7 _ _,?_⟩;intro W2 j0 e1;have hn:=HN.2.2.2.2;have r0:=m0.grown j0 (by omega);have r1:=h0.grown j0 (by omega);have r2:=n0.grown j0 (by omega);have q0:=qG hb j0 hb.size (by omega);have c0:=r0.cell 0;have c1:=r1.cell 0;have c2:=r2.cell 0;simp at c0 c1 c2;have s1:=Tryz.mixed;have z0:c<k:=by
   have h1:=f0.1;rw[Gt.pl_yes s.1 (by omega) f0.2.1] at hc;omega
  have hC:H (c+1+pl (jNx s).1 (jNx s).2=k):=by
   have h1:=f0.1;rw[Gt.pl_yes s.1 (by omega) f0.2.1] at hc;show _=_;rw[Gt.pl_nm];omega
  have k1:(c:Int)<(k:Int):=by omega
  obtain⟨c1,i0⟩:∃ c1,c+1=c1:=⟨_,rfl⟩;have u1:IntKind.i64.wrap ((c:Int)+1)=(c1:Int):=by rw[A8];omega
  rw[i0] at hC;have t1:=f0.1;have n1:=KS c z0;obtain⟨b',off,rfl,y0⟩:=(KH.below q0) c z0;have x0:H (w8.1.size+2<W2.1.size):=by rw[e1];exact g0
  clear m0 h0 n0 j0 e1 hb hc;by_cases hev:s.1 % 2=0
  .have k0:((s.1:Nat):Int)<((nb s.1:Nat):Int):=by unfold nb;rw[A6 hev];omega
   have HJ:H (∀ w0,CB 218 #[y,(S c)] w0 (jn y (S c))):=fun w0=>jBt _ _ w0 (by omega) (by omega)
   have HP:H (pr (jn y (S c)) (jNx s).1 (jNx s).2 S c1=pr x i n S 0):=by
    show _=_;rw[Gt.pr_nm,<-hp,<-i0,Gt.pr_yes y s.1 S c (by omega) f0.2.1,A6 hev]
   have HZ:H ((jn y (S c)).size=16):=Gt.jn_size _ _;generalize jn y (S c)=z at HJ HP HZ;generalize S c=sc at HJ y0;generalize nb s.1=q at k0;generalize s.1=p at k0;clear hp hev i0;gi_wp2_with fail
   gi_region_with_o (gi_at_call 218;refine(Fg l (Dv.2 (HJ _))).mono ?_;rintro e w9 ⟨rfl,b0⟩;have d0:=jC b0;clear b0;have g1:=(r1.below d0 r1.lt).cell 0;have f1:=(r1.below d0 r1.lt).free 0;simp at g1;have HW:=jDq (z:=z) (c1:=c1) q0 d0 r0 r1 r2 hn.2;have g2:=HW.1.cell 0;have f2:=HW.1.free 0;simp at g2)
   all_goals gi_wp2
   all_goals exact⟨HW.2.1,fun j h1 h2=>HW.2.2.1 j (by omega) (by have:=x0.out;omega),HW.out.2.2.2.1,HW.out.2.2.2.2.1,z,c1,HW.2.2.2.2.2.1,HW.2.2.2.2.2.2,HZ,hC,HP⟩
  .have k0:¬ ((s.1:Nat):Int)<((nb s.1:Nat):Int):=by unfold nb;rw[A5 hev];omega
   have HJ:H (∀ w0,CB 218 #[(S c),y] w0 (jn (S c) y)):=fun w0=>jBt _ _ w0 (by omega) (by omega)
   have HP:H (pr (jn (S c) y) (jNx s).1 (jNx s).2 S c1=pr x i n S 0):=by
    show _=_;rw[Gt.pr_nm,<-hp,<-i0,Gt.pr_yes y s.1 S c (by omega) f0.2.1,A5 hev]
   have HZ:H ((jn (S c) y).size=16):=Gt.jn_size _ _;generalize jn (S c) y=z at HJ HP HZ;generalize S c=sc at HJ y0;generalize nb s.1=q at k0;generalize s.1=p at k0;clear hp hev i0;gi_wp2_with fail
   gi_region_with_o (gi_at_call 218;refine(Fg l (Dv.2 (HJ _))).mono ?_;rintro e w9 ⟨rfl,b0⟩;have d0:=jC b0;clear b0;have g1:=(r1.below d0 r1.lt).cell 0;have f1:=(r1.below d0 r1.lt).free 0;simp at g1;have HW:=jDq (z:=z) (c1:=c1) q0 d0 r0 r1 r2 hn.2;have g2:=HW.1.cell 0;have f2:=HW.1.free 0;simp at g2)
   all_goals gi_wp2
   all_goals exact⟨HW.2.1,fun j h1 h2=>HW.2.2.1 j (by omega) (by have:=x0.out;omega),HW.out.2.2.2.1,HW.out.2.2.2.2.1,z,c1,HW.2.2.2.2.2.1,HW.2.2.2.2.2.2,HZ,hC,HP⟩
 case done=>
  rintro s W hf ⟨hb,m0,y,c,h0,n0,hy,hc,hp⟩ hK;have e0:=h0.cell 0;simp at e0;have j1:H (y=pr x i n S 0):=by rw[Gt.pr_one _ _ _ _ hf] at hp;exact hp
  go_wp2
  refine⟨by simp,.inl ⟨_,_,rfl,run_takeDeferred hK,?_⟩⟩;exact⟨_,results_tmp2 rfl _ _ _,by rw[<-j1.out];rfl,qG hb (qS _ _ _) hb.size (by have:=HN.out;omega)⟩
end
section
open Gt (nb hf nm pl pr jn)
theorem jAl {x:BA} {i n:Int} {k:Nat} {S:Nat->BA} (h:prB x i n k S=Aw):x.size=16/\(k:Int)=plI i n/\∀ j,j<k->(S j).size=16:=by
 unfold prB at h;simp only[Cs,Ed,jIw] at h;exact⟨h.1.1,h.1.2,h.2⟩
theorem jKr {i n:Int} (h:0<=plI i n):inT i n=Aw:=by
 unfold plI at h;by_cases e:inT i n=Aw
 .exact e
 .rw[A5 e] at h;omega
theorem jB2 (x:BA) (i n:Int) (a:OA) (k cap:Nat) (S:Nat->BA) (w:Ad) (h:jL w a k S) (hk:k<=1048576) (hL:∀ i,i<k->(S i).size<=Au):CB 204 #[x,Ao Ar i,n,V a k cap] w (Ah #[(prS x i n k S),(prB x i n k S)]):=by
 unfold prS;cases hB:prB x i n k S with
 | false=>exact jDp x i n a k cap S w h hk hL hB
 | true=>
  obtain⟨h1,h2,h3⟩:=jAl hB;have a0:=jKr (i:=i) (n:=n) (by omega);obtain⟨i',rfl⟩:∃ i':Nat,i=(i':Int):=⟨i.toNat,by simp[inT] at a0;omega⟩;obtain⟨n',rfl⟩:∃ n':Nat,n=(n':Int):=⟨n.toNat,by simp[inT] at a0;omega⟩;exact jDo x i' n' a k cap S w h a0 h1 (by unfold plI at h2;rw[A6 a0] at h2;simp at h2;omega) h3
theorem jAw (x:BA) (i n:Int) (a:OA) (k cap:Nat) (S:Nat->BA) (w:Ad) (h:jL w a k S) (hk:k<=1048576) (hL:∀ i,i<k->(S i).size<=Au):CB 181 #[x,Ao Ar i,n,V a k cap] w (Ah #[(prS x i n k S),(prB x i n k S)]):=by
 have KP:H (∀ w0,CS 202 #[Ao Ar i,n] w0 (plI i n)):=fun w0=>jB9 i n w0
 have KV:H (CS 189 #[V a k cap] w (lvB k S)):=QD a k cap S w h hk hL;unfold prS;obtain⟨r,hr⟩:∃ r,plI i n=r:=⟨_,rfl⟩;rw[hr] at KP;cases hB:prB x i n k S with
 | false=>
  have a0:=hB;unfold prB at a0;rw[hr] at a0;by_cases h0:r<0
  .clear a0 hr h;go_enter func181,ntmps181
   go_wp2_with (go_at_call 202;refine(KP _).mono ?_;rintro e w' ⟨rfl,hw⟩;obtain rfl:=hw.symm)
   go_ret2
   exact⟨rfl,Az _ _⟩
  .have i0:decide (r<0)=Av:=by simpa using h0
   by_cases h16:x.size=16
   .have d0:((x.size:Int) !=16)=Av:=by simp;omega
    by_cases hkr:(k:Int)=r
    .subst hkr;have f0:aS k S=Av:=by simpa [h16] using a0
     have t0:(0:Int)<(k:Int):=by
      by_cases e:k=0
      .subst e;simp[aS] at f0
      .omega
     have c0:lvB k S=Av:=by unfold lvB;rw[f0];rfl
     rw[c0] at KV;have m0:((k:Int) !=(k:Int))=Av:=by simp
     clear a0 hr h c0 f0 h16 h0 hB;go_enter func181,ntmps181
     go_wp2_with (first|(go_at_call 202;refine(KP _).mono ?_;rintro e w' ⟨rfl,hw⟩;obtain rfl:=hw.symm)|(go_at_call 189;refine KV.mono ?_;rintro e w' ⟨rfl,hw⟩;obtain rfl:=hw.symm))
     go_ret2
     exact⟨rfl,Az _ _⟩
    .have v0:((k:Int) !=r)=Aw:=by simp;exact hkr
     clear a0 hr h hkr h16 h0 hB;go_enter func181,ntmps181
     go_wp2_with (go_at_call 202;refine(KP _).mono ?_;rintro e w' ⟨rfl,hw⟩;obtain rfl:=hw.symm)
     go_ret2
     exact⟨rfl,Az _ _⟩
   .have d0:((x.size:Int) !=16)=Aw:=by simp;omega
    clear a0 hr h h16 h0 hB;go_enter func181,ntmps181
    go_wp2_with (go_at_call 202;refine(KP _).mono ?_;rintro e w' ⟨rfl,hw⟩;obtain rfl:=hw.symm)
    go_ret2
    exact⟨rfl,Az _ _⟩
 | true=>
  obtain⟨h1,h2,h3⟩:=jAl hB;have e0:=jKr (i:=i) (n:=n) (by omega);obtain⟨i',rfl⟩:∃ i':Nat,i=(i':Int):=⟨i.toNat,by simp[inT] at e0;omega⟩;obtain⟨n',rfl⟩:∃ n':Nat,n=(n':Int):=⟨n.toNat,by simp[inT] at e0;omega⟩;have hin2:i'<n'/\n'<=64:=by simp[inT] at e0;omega
  have hkp:H (k=pl i' n'):=by show _=_;unfold plI at h2;rw[A6 e0] at h2;simp at h2;omega
  have x0:k<=6:=by rw[hkp.out];exact Gt.pl_le 6 _ _ (by omega)
  rw[hr] at h2;subst h2;have c0:0<k->lvB k S=Aw:=fun h0=>by unfold lvB;rw[jCq h3,QN (by omega)];rfl
  have d0:((x.size:Int) !=16)=Av:=by simp;omega
  have m0:((k:Int) !=(k:Int))=Av:=by simp
  have i0:decide ((k:Int)<0)=Av:=by simp
  have K3:H (∀ j,j<k->(S j).size=16):=h3;have KH:H (jL w a k S):=h;have Hx:H (x.size=16):=h1;rw[A6 rfl];simp only[Cy];clear hB hr e0 h h1 h3 hL hk;have o0:∀ (Z:BA),Z=pr x i' n' S 0->CB 181 #[x,(i':Int),(n':Int),V a k cap] w (Ah #[Z,Aw]):=by
   intro Z hZ;have HZ:H (Z=pr x i' n' S 0):=hZ;clear hZ;go_enter func181,ntmps181
   by_cases t0:(0:Int)<(k:Int)
   have p0:H (CS 189 #[V a k cap] w Aw):=by
    have:=KV.out
    rw[c0 (by omega)] at this;exact this
   clear KV c0;go_wp2_with (first|(go_at_call 202;refine(KP _).mono ?_;rintro e w' ⟨rfl,hw⟩;obtain rfl:=hw.symm)|(go_at_call 189;refine p0.mono ?_;rintro e w' ⟨rfl,hw⟩;obtain rfl:=hw.symm))
   rotate_left;clear KV c0;go_wp2_with (go_at_call 202;refine(KP _).mono ?_;rintro e w' ⟨rfl,hw⟩;obtain rfl:=hw.symm)
   rotate_left;all_goals
    go_loopw [0,1,2,11] (fun vx vi vn vc wr=>∃ (y:BA) (p s c:Nat),p<s/\s<=64/\y.size=16/\H (c+pl p s=k)/\H (pr y p s S c=Z)/\vx=Ag y/\vi=Ao Ar (p:Int)/\vn=Ao Ar (s:Int)/\vc=Ao Ar (c:Int)/\Ab w w wr) (fun _ _ vn _ _=>(intOf vn).toNat)
    case atStart=>exact⟨x,i',n',0,hin2.1,hin2.2,Hx,by show 0+_=_;rw[Bt];exact hkp.symm,HZ.symm,rfl,rfl,rfl,rfl,Az _ _⟩
    case round=>
     obtain⟨y,p,s,c,hp,hs,hy,HC,HP,rfl,rfl,rfl,rfl,hbel⟩:=hrel;clear d0 m0 i0;by_cases h1:s<=1
     .have q0:¬ (1:Int)<(s:Int):=by omega
      have HE:H (y=Z):=by have:=HP.out;rw[Gt.pr_one _ _ _ _ h1] at this;exact this
      go_wp2
      go_ret2
      exact⟨by rw[<-HE.out];rfl,hbel⟩
     .have q0:(1:Int)<(s:Int):=by omega
      obtain⟨u1,u2,u3,u4,u5,u6,u7,u8,u9⟩:=jFr p s hp hs;have b0:p / 2<hf s/\hf s<s:=by unfold hf;omega
      by_cases hb:nb p<s
      .have HC2:H (c+1+pl (p / 2) (hf s)=k):=by have:=HC.out;rw[Gt.pl_yes p h1 hb] at this;show _=_;omega
       have j0:c<k:=by have:=HC2.out;omega
       have u0:(c:Int)<(k:Int):=by omega
       have g0:((nb p:Nat):Int)<(s:Int):=by omega
       have n0:=K3 c j0;obtain⟨b',off,rfl,s0⟩:=(KH.below hbel) c j0;by_cases hev:p % 2=0
       have k0:((p:Int) % 2==0)=Aw:=by simp;omega
       have HJ:H (∀ w0,CB 203 #[y,(S c)] w0 (jn y (S c))):=fun w0=>jAq _ _ w0 (by omega) (by omega)
       have HP2:H (pr (jn y (S c)) (p / 2) (hf s) S (c+1)=Z):=by
        show _=_;rw[<-HP.out,Gt.pr_yes y p S c h1 hb,A6 hev]
       have HZ2:H ((jn y (S c)).size=16):=Gt.jn_size _ _;generalize jn y (S c)=z at HJ HP2 HZ2;rotate_left;have k0:((p:Int) % 2==0)=Av:=by simp;omega
       have HJ:H (∀ w0,CB 203 #[(S c),y] w0 (jn (S c) y)):=fun w0=>jAq _ _ w0 (by omega) (by omega)
       have HP2:H (pr (jn (S c) y) (p / 2) (hf s) S (c+1)=Z):=by
        show _=_;rw[<-HP.out,Gt.pr_yes y p S c h1 hb,A5 hev]
       have HZ2:H ((jn (S c) y).size=16):=Gt.jn_size _ _;generalize jn (S c) y=z at HJ HP2 HZ2;rotate_left;all_goals
        generalize S c=sc at HJ s0;generalize nb p=q at u4 g0;generalize p / 2=p' at u5 u6 b0 HC2 HP2;generalize hf s=s' at u8 u9 b0 HC2 HP2;clear hev hb HP HC n0;go_wp2_with fail
        refine(HJ _).mono ?_;rintro e w9 ⟨rfl,r0⟩;have hbw:=hbel.trans (r0.mono hbel.size);go_wp2
        go_roundw
        case rel=>exact⟨z,p',s',c+1,by omega,by omega,HZ2.out,HC2,HP2,rfl,rfl,rfl,by go_num,hbw⟩
        case measure=>simp[intOf];omega
      .have HC2:H (c+pl (p / 2) (hf s)=k):=by have:=HC.out;rw[Gt.pl_no p h1 hb] at this;exact this
       have HP2:H (pr y (p / 2) (hf s) S c=Z):=by have:=HP.out;rw[Gt.pr_no y p S c h1 hb] at this;exact this
       have g0:¬ ((nb p:Nat):Int)<(s:Int):=by omega
       generalize nb p=q at u4 g0;generalize p / 2=p' at u5 u6 b0 HC2 HP2;generalize hf s=s' at u8 u9 b0 HC2 HP2;clear hb HP HC;go_wp2
       go_roundw
       case rel=>exact⟨y,p',s',c,by omega,by omega,hy,HC2,HP2,rfl,rfl,rfl,rfl,hbel⟩
       case measure=>simp[intOf];omega
  exact o0 _ rfl
end
section
open Go.Shelf
open Gt (hf up)
abbrev RSt:=Bool×Nat×(Nat->BA)
abbrev jS9 (s:RSt):Array Aj:=#[RwV s.2.2 s.2.1]
abbrev rOk (s:RSt):Prop:=s.1=Av/\1<=s.2.1/\s.2.1<=64/\∀ i,i<s.2.1->(s.2.2 i).size=16
def rNx (s:RSt):RSt:=if s.2.1<=1 then (Aw,s.2.1,s.2.2) else (Av,hf s.2.1,up s.2.1 s.2.2)
abbrev rFin (s:RSt):Prop:=s.1=Aw
theorem jDt (T0:Nat->BA) (n:Nat) (n0:1<=n) (hn:n<=64) (hS:∀ i,i<n->(T0 i).size=16):jPf prog 241 (RwV T0 n) jS9 rOk rNx rFin (Av,n,T0):=by
 intro nn m l J W hJ hY hm h0;subst hm;have KY:H (∀ s W1,rOk s->J s W1->W.1.size<W1.1.size->YieldAt Fence.wide m prog l (jS9 s) W1 fun e W'=>e=Ae Aw/\J (rNx s) W'/\W.1.size<W'.1.size/\W'.1[W.1.size]?=W1.1[W.1.size]?):=hY;clear hY;have KJ:H (∀ s A B,J s A->A.grownBy B (M W.1.size)->J s B):=hJ;clear hJ;have s0:=jEh;have r0:=JD;have KS:H (∀ i,i<n->(T0 i).size=16):=hS;clear hS;obtain⟨b,hb⟩:∃ b,W.1.size=b:=⟨_,rfl⟩;have KW:=hd hb;refine callsIn_of_wp func241 rfl trivial ?_ rfl;simp only[ntmps241,E0,Fr,Gb,Nat.reduceAdd,Nat.reduceSub,Es,Et,Fj,E6,En,Fa];gi_wp2_with (refine jS1 rfl _ rfl T0 n rfl ?_)
 go_simp
 gi_loopg [] n (fun gk wr=>∃ (k:Nat) (T:Nat->BA),k=gk/\1<=k/\k<=64/\H (∀ i,i<k->(T i).size=16)/\Row wr b 259 (jV T k)/\H (J (Av,k,T) wr))
 case atStart=>
  refine⟨n,T0,rfl,n0,hn,KS,?_,KJ _ _ _ h0 (E8 _ _ _)⟩;rw[<-hb];exact Row.new W _ _
 case round=>
  obtain⟨k,T,rfl,i0,d0,HS,hr,HJ⟩:=hrel;clear h0 KS;have o0:b<wr.1.size:=hr.lt;obtain⟨fn,q0,j0,p0,hy,hR⟩:=KY (Av,k,T) wr ⟨rfl,i0,d0,HS⟩ HJ (by rw[KW.out];exact o0);have HR:=hd hR;clear hR;simp only[jS9] at hy;have t0:m+1-1=m:=rfl;by_cases h1:k<=1
  .have m0:¬ (1:Int)<(k:Int):=by omega
   gi_wp2_with (refine jJr rfl _ rfl b rfl T k hr ?_)
   refine HR.mono ?_;rintro e w2 ⟨rfl,a0,e0,c0⟩;have R2:Row w2 b 259 (jV T k):=by
    unfold Row;rw[<-KW.out,c0,KW.out];exact hr
   have k0:w2.cell? (Q b 64 I)=M (Ao Ar (k:Int)):=by rw[R2.cell 64,xI]
   have b0:H (J (Aw,k,T) w2):=by unfold rNx at a0;rw[A6 h1] at a0;exact a0
   clear a0 e0 c0 hr;gi_wp2
   go_end0
   first|exact⟨⟨_,rfl⟩,(Aw,k,T),rfl,b0⟩|exact⟨⟨_,rfl⟩,Aw,⟨k,T,b0⟩,rfl⟩|exact⟨⟨_,rfl⟩,Aw,k,T,rfl,b0⟩|exact⟨⟨_,rfl⟩,Aw,rfl,k,T,b0⟩|exact⟨⟨_,rfl⟩,Aw,⟨k,T,rfl,b0⟩⟩
  .have m0:(1:Int)<(k:Int):=by omega
   gi_wp2_with (refine jJr rfl _ rfl b rfl T k hr ?_)
   refine HR.mono ?_;rintro e w2 ⟨rfl,a0,e0,c0⟩;have R2:Row w2 b 259 (jV T k):=by
    unfold Row;rw[<-KW.out,c0,KW.out];exact hr
   have k0:w2.cell? (Q b 64 I)=M (Ao Ar (k:Int)):=by rw[R2.cell 64,xI]
   have b0:H (J (Av,hf k,up k T) w2):=by unfold rNx at a0;rw[A5 h1] at a0;exact a0
   have KA:=hd (jDr T k w2 i0 d0 HS);have HU:H (∀ i,i<hf k->(up k T i).size=16):=Gt.up_size HS;have hlt:1<=hf k/\hf k<k:=by unfold hf;omega
   clear a0 e0 c0 hr;generalize hf k=k' at *;generalize up k T=T' at *;gi_wp2_with (refine jJr rfl _ rfl b rfl T k R2 ?_)
   refine(Dv.2 KA).mono ?_;rintro e w3 ⟨rfl,f0⟩;have R3:=R2.below f0 R2.lt;have HJ3:H (J (Av,k',T') (w3.setRow b (jV T' k'))):=by
    have hg:=xF (M b) f0;have g0:w3.grownBy (w3.setRow b (jV T' k')) (M b):=⟨rfl,rfl,rfl,by simp,fun j _ hj=>Cd _ _ _ _ (fun e=>hj (by rw[e]))⟩;rw[<-KW.out] at hg g0 |-;exact KJ _ _ _ (KJ _ _ _ b0 hg) g0
   have R4:=R3.row (ds:=jV T' k');gi_wp2_with (refine jEt rfl _ _ rfl b rfl T' k' rfl T k R3 ?_)
   gi_roundg k'
   case measure=>exact hlt.2
   case rel=>exact⟨k',T',rfl,hlt.1,by omega,HU,R4,HJ3⟩
end
def pvB (r x:BA) (i n:Int) (k:Nat) (S:Nat->BA):Bool:=prB x i n k S&&decide (prS x i n k S=r)
theorem jH3 (r x:BA) (i n:Int) (a:OA) (k cap:Nat) (S:Nat->BA) (w:Ad) (h:jL w a k S) (hk:k<=1048576) (hL:∀ i,i<k->(S i).size<=Au):CB 183 #[r,x,Ao Ar i,n,V a k cap] w (pvB r x i n k S):=by
 have KP:=hd (jB2 x i n a k cap S w h hk hL);unfold pvB;generalize prS x i n k S=z at KP;generalize prB x i n k S=d at KP;cases d with
 | false=>
  go_enter func183,ntmps183
  go_wp2_with fail
  refine KP.mono ?_;rintro e w1 ⟨rfl,hb⟩;go_wp2
  go_ret
  exact⟨rfl,hb⟩
 | true=>
  by_cases hz:z=r
  .subst hz;have hq:=vD z;go_enter func183,ntmps183
   go_wp2_with fail
   refine KP.mono ?_;rintro e w1 ⟨rfl,hb⟩;go_wp2
   go_ret
   exact⟨by simp,hb⟩
  .have hq:=jEl hz;have HZ:H (decide (z=r)=Av):=by show _=_;simpa using hz
   go_enter func183,ntmps183
   go_wp2_with fail
   refine KP.mono ?_;rintro e w1 ⟨rfl,hb⟩;go_wp2
   go_ret
   exact⟨by rw[HZ.out];rfl,hb⟩
theorem jFg (r x:BA) (i n:Int) (a:OA) (k cap:Nat) (S:Nat->BA) (w:Ad) (h:jL w a k S) (hk:k<=1048576) (hL:∀ i,i<k->(S i).size<=Au):CB 156 #[r,x,Ao Ar i,n,V a k cap] w (pvB r x i n k S):=by
 have KP:=hd (jAw x i n a k cap S w h hk hL);unfold pvB;generalize prS x i n k S=z at KP;generalize prB x i n k S=d at KP;cases d with
 | false=>
  go_enter func156,ntmps156
  go_wp2_with fail
  refine KP.mono ?_;rintro e w1 ⟨rfl,hb⟩;go_wp2
  go_ret
  exact⟨rfl,hb⟩
 | true=>
  by_cases hz:z=r
  .subst hz;have hq:=vD z;go_enter func156,ntmps156
   go_wp2_with fail
   refine KP.mono ?_;rintro e w1 ⟨rfl,hb⟩;go_wp2
   go_ret
   exact⟨by simp,hb⟩
  .have hq:=jEl hz;have HZ:H (decide (z=r)=Av):=by show _=_;simpa using hz
   go_enter func156,ntmps156
   go_wp2_with fail
   refine KP.mono ?_;rintro e w1 ⟨rfl,hb⟩;go_wp2
   go_ret
   exact⟨by rw[HZ.out];rfl,hb⟩
end Go.Proofs.YtcaejlalnjnifaaGreat
