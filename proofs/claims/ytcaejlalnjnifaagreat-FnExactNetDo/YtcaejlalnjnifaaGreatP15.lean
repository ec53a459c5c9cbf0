import Derived.Test.YtcaejlalnjnifaaGreatP12
import Derived.Test.YtcaejlalnjnifaaGreatP13
import Derived.Test.YtcaejlalnjnifaaGreatP14
import Derived.Test.YtcaejlalnjnifaaGreatP11
import Derived.Sort.LoopGhostIn
import Derived.Lib.Walk
import Derived.Lib.BufferWrite
import Derived.Lib.Hide
set_option maxHeartbeats 8000000
set_option maxRecDepth 2000
open Go.Value renaming slice->V,string->Ag,tuple->Ah,agg->Ai,int->Ao,oneCell'->Aq
open Option renaming none->I,some->M
open Go.RowKit renaming Hid->H,Below->Ab
open Go.Addr renaming mk->Q
open Go.Obj renaming cells->J
open Go renaming World->Ad,Value->Aj,Calls->Ak,maxLen->Au
open Go.Ending renaming returned->Ae
open ByteArray renaming empty->Ap
open Go.IntKind renaming i64->Ar
open Bool renaming false->Av,true->Aw
open Go.Proofs.Tryz
open Go.ChangeShapes Go.WideShapes Go.ChangeAt Go.RowKit
namespace Go.Proofs.YtcaejlalnjnifaaGreat
open Gs (U)
def jOp (s:BA):BA:=strOfNums (lx (Gs.sip (tat s) 1#64 2#64 s.size))++strOfNums (lx (Gs.sip (tat s) 3#64 4#64 s.size))
theorem JF (x:BitVec 64):(strOfNums (lx x)).size=8:=by rw[Fx,jJl]
theorem jD5 (s:BA):(jOp s).size=16:=by
 unfold jOp;rw[Dx,JF,JF]
theorem jGm (s:BA) (w:Ad) (hs:s.size<=4194304):CB 219 #[s] w (jOp s):=by
 have z1:=JF (Gs.sip (tat s) 1#64 2#64 s.size);have z2:=JF (Gs.sip (tat s) 3#64 4#64 s.size);have HS:H (jOp s=strOfNums (lx (Gs.sip (tat s) 1#64 2#64 s.size))++strOfNums (lx (Gs.sip (tat s) 3#64 4#64 s.size))):=rfl;go_enter func219,ntmps219
 go_wp2_with fail
 refine(jGi 1#64 2#64 s _ hs).mono ?_;rintro e w1 ⟨rfl,a0⟩;go_wp2_with fail
 refine(XP _ _).mono ?_;rintro e w2 ⟨rfl,b0⟩;go_wp2_with fail
 refine(jGi 3#64 4#64 s _ hs).mono ?_;rintro e w3 ⟨rfl,c0⟩;go_wp2_with fail
 refine(XP _ _).mono ?_;rintro e w4 ⟨rfl,d0⟩;have hb:=jA (jA a0 b0) (jA c0 d0);generalize strOfNums (lx (Gs.sip (tat s) 1#64 2#64 s.size))=t1 at z1 HS |-;generalize strOfNums (lx (Gs.sip (tat s) 3#64 4#64 s.size))=t2 at z2 HS |-;go_wp2
 go_ret
 exact⟨by rw[HS.out];rfl,hb⟩
theorem jDu (s:BA) (w:Ad) (hs:s.size<=4194304):CB 152 #[s] w (jOp s):=by
 have z1:=JF (Gs.sip (tat s) 1#64 2#64 s.size);have z2:=JF (Gs.sip (tat s) 3#64 4#64 s.size);have HS:H (jOp s=strOfNums (lx (Gs.sip (tat s) 1#64 2#64 s.size))++strOfNums (lx (Gs.sip (tat s) 3#64 4#64 s.size))):=rfl;go_enter func152,ntmps152
 go_wp2_with fail
 refine(jDt 1#64 2#64 s _ hs).mono ?_;rintro e w1 ⟨rfl,b0⟩;go_wp2_with fail
 refine(QU _ _).mono ?_;rintro e w2 ⟨rfl,c0⟩;go_wp2_with fail
 refine(jDt 3#64 4#64 s _ hs).mono ?_;rintro e w3 ⟨rfl,d0⟩;go_wp2_with fail
 refine(QU _ _).mono ?_;rintro e w4 ⟨rfl,e0⟩;have hb:=jA (jA b0 c0) (jA d0 e0);generalize strOfNums (lx (Gs.sip (tat s) 1#64 2#64 s.size))=t1 at z1 HS |-;generalize strOfNums (lx (Gs.sip (tat s) 3#64 4#64 s.size))=t2 at z2 HS |-;have a0:(t1++t2).size=16:=by rw[Dx];omega
 have hcut:(t1++t2).extract 0 16=t1++t2:=by rw[<-a0];exact ByteArray.extract_zero_size
 go_wp2
 go_ret
 exact⟨by rw[HS.out];rfl,hb⟩
end Go.Proofs.YtcaejlalnjnifaaGreat
namespace Go.Proofs.YtcaejlalnjnifaaGreat
namespace Gt
def jn (a b:BA):BA:=jOp ((⟨#[1]⟩:BA)++a++b)
def lf (s:BA):BA:=jOp ((⟨#[0]⟩:BA)++s)
theorem jn_size (a b:BA):(jn a b).size=16:=jD5 _
theorem lf_size (a:BA):(lf a).size=16:=jD5 _
def nb (i:Nat):Nat:=if i % 2=0 then i+1 else i-1
def hf (n:Nat):Nat:=(n+1) / 2
def up (m:Nat) (R:Nat->BA):Nat->BA:=fun i=>if 2*i+1<m then jn (R (2*i)) (R (2*i+1)) else if 2*i<m then R (2*i) else Ap
theorem up_congr {m:Nat} {R R':Nat->BA} (h:∀ i,i<m->R i=R' i):up m R=up m R':=by
 funext i
 unfold up;by_cases h1:2*i+1<m
 .rw[A6 h1,A6 h1,h _ (by omega),h _ h1]
 .rw[A5 h1,A5 h1];by_cases h2:2*i<m
  .rw[A6 h2,A6 h2,h _ h2]
  .rw[A5 h2,A5 h2]
theorem up_size {m:Nat} {R:Nat->BA} (h:∀ i,i<m->(R i).size=16):∀ i,i<hf m->(up m R i).size=16:=by
 intro i hi;unfold hf at hi;unfold up;by_cases h1:2*i+1<m
 .rw[A6 h1];exact jn_size _ _
 .rw[A5 h1,A6 (by omega)];exact h _ (by omega)
theorem up_pad (m:Nat) (R:Nat->BA):∀ i,hf m<=i->up m R i=Ap:=by
 intro i hi;unfold hf at hi;unfold up;rw[A5 (by omega),A5 (by omega)]
def rt (n:Nat) (R:Nat->BA):BA:=if _h:n<=1 then R 0 else rt (hf n) (up n R)
 termination_by n
 decreasing_by unfold hf;omega
theorem rt_one {n:Nat} (R:Nat->BA) (h:n<=1):rt n R=R 0:=by rw[rt,dif_pos h]
theorem rt_more {n:Nat} (R:Nat->BA) (h:¬ n<=1):rt n R=rt (hf n) (up n R):=by rw[rt,Hf h]
theorem rt_congr {n:Nat} {R R':Nat->BA} (hn:0<n) (h:∀ i,i<n->R i=R' i):rt n R=rt n R':=by
 by_cases e:n<=1
 .rw[rt_one _ e,rt_one _ e,h 0 hn]
 .rw[rt_more _ e,rt_more _ e,up_congr h]
theorem rt_size {n:Nat}:∀ {R:Nat->BA},0<n->(∀ i,i<n->(R i).size=16)->(rt n R).size=16:=by
 induction n using Nat.strongRecOn with
 | _ n ih=>
  intro R hn h;by_cases e:n<=1
  .rw[rt_one _ e];exact h 0 hn
  .rw[rt_more _ e];exact ih (hf n) (by unfold hf;omega) (by unfold hf;omega) (up_size h)
def pl (i n:Nat):Nat:=if _h:n<=1 then 0 else (if nb i<n then 1 else 0)+pl (i / 2) (hf n)
 termination_by n
 decreasing_by unfold hf;omega
theorem pl_one {n:Nat} (i:Nat) (h:n<=1):pl i n=0:=by rw[pl,dif_pos h]
theorem pl_yes {n:Nat} (i:Nat) (h:¬ n<=1) (hb:nb i<n):pl i n=1+pl (i / 2) (hf n):=by rw[pl,Hf h,A6 hb]
theorem pl_no {n:Nat} (i:Nat) (h:¬ n<=1) (hb:¬ nb i<n):pl i n=pl (i / 2) (hf n):=by rw[pl,Hf h,A5 hb,Bq]
theorem pl_le (k:Nat):∀ (i n:Nat),n<=2 ^ k->pl i n<=k:=by
 induction k with
 | zero=>intro i n h;rw[pl_one i (by simpa using h)];exact Ay _
 | succ k ih=>
  intro i n h;by_cases e:n<=1
  .rw[pl_one i e];exact Bi _
  .have h2:hf n<=2 ^ k:=by
    rw[Nat.pow_succ] at h;unfold hf;have:=Nat.one_le_two_pow (n:=k)
    omega
   have:=ih (i / 2) (hf n) h2
   by_cases hb:nb i<n
   .rw[pl_yes i e hb];omega
   .rw[pl_no i e hb];omega
def pf (n:Nat) (R:Nat->BA) (i:Nat) (j:Nat):BA:=
 if _h:n<=1 then Ap else if nb i<n then (if j=0 then R (nb i) else pf (hf n) (up n R) (i / 2) (j-1)) else pf (hf n) (up n R) (i / 2) j
 termination_by n
 decreasing_by all_goals (unfold hf;omega)
theorem pf_hd {n:Nat} (R:Nat->BA) (i:Nat) (h:¬ n<=1) (hb:nb i<n):pf n R i 0=R (nb i):=by rw[pf,Hf h,A6 hb,A6 rfl]
theorem pf_tl {n:Nat} (R:Nat->BA) (i j:Nat) (h:¬ n<=1) (hb:nb i<n):pf n R i (j+1)=pf (hf n) (up n R) (i / 2) j:=by rw[pf,Hf h,A6 hb,A5 (by omega)];rfl
theorem pf_no {n:Nat} (R:Nat->BA) (i j:Nat) (h:¬ n<=1) (hb:¬ nb i<n):pf n R i j=pf (hf n) (up n R) (i / 2) j:=by rw[pf,Hf h,A5 hb]
theorem pf_congr {n:Nat} {R R':Nat->BA} (h:∀ i,i<n->R i=R' i) (i j:Nat):pf n R i j=pf n R' i j:=by
 by_cases e:n<=1
 .rw[pf,dif_pos e,pf,dif_pos e]
 .by_cases hb:nb i<n
  .cases j with
   | zero=>rw[pf_hd _ _ e hb,pf_hd _ _ e hb,h _ hb]
   | succ j=>rw[pf_tl _ _ _ e hb,pf_tl _ _ _ e hb,up_congr h]
  .rw[pf_no _ _ _ e hb,pf_no _ _ _ e hb,up_congr h]
theorem pf_size {n:Nat}:∀ {R:Nat->BA} (i:Nat),i<n->(∀ i,i<n->(R i).size=16)->∀ j,j<pl i n->(pf n R i j).size=16:=by
 induction n using Nat.strongRecOn with
 | _ n ih=>
  intro R i hi h j hj;by_cases e:n<=1
  .rw[pl_one i e] at hj;omega
  .have b0:hf n<n:=by unfold hf;omega
   have a0:i / 2<hf n:=by unfold hf;omega
   by_cases hb:nb i<n
   .rw[pl_yes i e hb] at hj;cases j with
    | zero=>rw[pf_hd _ _ e hb];exact h _ hb
    | succ j=>rw[pf_tl _ _ _ e hb];exact ih (hf n) b0 (i / 2) a0 (up_size h) j (by omega)
   .rw[pl_no i e hb] at hj;rw[pf_no _ _ _ e hb];exact ih (hf n) b0 (i / 2) a0 (up_size h) j hj
def pr (x:BA) (i n:Nat) (P:Nat->BA) (c:Nat):BA:=
 if _h:n<=1 then x else if nb i<n then pr (if i % 2=0 then jn x (P c) else jn (P c) x) (i / 2) (hf n) P (c+1) else pr x (i / 2) (hf n) P c
 termination_by n
 decreasing_by all_goals (unfold hf;omega)
theorem pr_one {n:Nat} (x:BA) (i:Nat) (P:Nat->BA) (c:Nat) (h:n<=1):pr x i n P c=x:=by rw[pr,dif_pos h]
theorem pr_yes {n:Nat} (x:BA) (i:Nat) (P:Nat->BA) (c:Nat) (h:¬ n<=1) (hb:nb i<n):pr x i n P c=pr (if i % 2=0 then jn x (P c) else jn (P c) x) (i / 2) (hf n) P (c+1):=by rw[pr,Hf h,A6 hb]
theorem pr_no {n:Nat} (x:BA) (i:Nat) (P:Nat->BA) (c:Nat) (h:¬ n<=1) (hb:¬ nb i<n):pr x i n P c=pr x (i / 2) (hf n) P c:=by rw[pr,Hf h,A5 hb]
def nm (p s:Nat):Nat×Nat:=if _h:s<=1 then (p,s) else if nb p<s then (p,s) else nm (p / 2) (hf s)
 termination_by s
 decreasing_by unfold hf;omega
theorem nm_one {s:Nat} (p:Nat) (h:s<=1):nm p s=(p,s):=by rw[nm,dif_pos h]
theorem nm_yes {s:Nat} (p:Nat) (h:¬ s<=1) (hb:nb p<s):nm p s=(p,s):=by rw[nm,Hf h,A6 hb]
theorem nm_no {s:Nat} (p:Nat) (h:¬ s<=1) (hb:¬ nb p<s):nm p s=nm (p / 2) (hf s):=by rw[nm,Hf h,A5 hb]
theorem pl_nm {s:Nat}:∀ (p:Nat),pl (nm p s).1 (nm p s).2=pl p s:=by
 induction s using Nat.strongRecOn with
 | _ s ih=>
  intro p;by_cases e:s<=1
  .rw[nm_one p e]
  .by_cases hb:nb p<s
   .rw[nm_yes p e hb]
   .rw[nm_no p e hb,pl_no p e hb];exact ih (hf s) (by unfold hf;omega) _
theorem pr_nm {s:Nat}:∀ (x:BA) (p:Nat) (P:Nat->BA) (c:Nat),pr x (nm p s).1 (nm p s).2 P c=pr x p s P c:=by
 induction s using Nat.strongRecOn with
 | _ s ih=>
  intro x p P c;by_cases e:s<=1
  .rw[nm_one p e]
  .by_cases hb:nb p<s
   .rw[nm_yes p e hb]
   .rw[nm_no p e hb,pr_no _ _ _ _ e hb];exact ih (hf s) (by unfold hf;omega) _ _ _ _
theorem nb_xor (i:Nat):i ^^^ 1=nb i:=by
 unfold nb;have h1:(i ^^^ 1) / 2=i / 2:=by rw[Nat.xor_div_two];simp
 have h2:(i ^^^ 1) % 2=(i+1) % 2:=by
  have h:=Nat.xor_mod_two_pow (a:=i) (b:=1) (n:=1);rw[Nat.pow_one] at h;rw[h];rcases Nat.mod_two_eq_zero_or_one i with e|e
  .rw[e,show (i+1) % 2=1 by omega];decide
  .rw[e,show (i+1) % 2=0 by omega];decide
 by_cases e:i % 2=0
 .rw[A6 e];omega
 .rw[A5 e];omega
theorem nb_model (i:Nat):(i:Int)+1-2*((i:Int) % 2)=(nb i:Int):=by
 unfold nb;by_cases e:i % 2=0
 .rw[A6 e];omega
 .rw[A5 e];omega
end Gt
end Go.Proofs.YtcaejlalnjnifaaGreat
namespace Go.Proofs.YtcaejlalnjnifaaGreat
open Gt (jn lf)
theorem jBu (x:UInt8) (s:BA):((⟨#[x]⟩:BA)++s).size=s.size+1:=by rw[Dx,show (⟨#[x]⟩:BA).size=1 from rfl];omega
theorem jBq (a b:BA) (w:Ad) (ha:a.size<=1048576) (hb:b.size<=1048576):CB 218 #[a,b] w (jn a b):=by
 have h1:=jBu 1 a;have h2:((⟨#[1]⟩:BA)++a++b).size=a.size+1+b.size:=by rw[Dx,h1]
 have HS:H (∀ w0,CB 219 #[Ag ((⟨#[1]⟩:BA)++a++b)] w0 (jn a b)):=fun w0=>jGm _ w0 (by omega)
 have a0:(⟨#[1]⟩:BA).size=1:=rfl;go_enter func218,ntmps218
 go_wp2_with fail
 refine(HS _).mono ?_;rintro e w1 ⟨rfl,b1⟩;go_wp2
 go_ret
 exact⟨rfl,b1⟩
theorem jAm (a b:BA) (w:Ad) (ha:a.size<=1048576) (hb:b.size<=1048576):CB 203 #[a,b] w (jn a b):=by
 have h1:=jBu 1 a;have h2:((⟨#[1]⟩:BA)++a++b).size=a.size+1+b.size:=by rw[Dx,h1]
 have HS:H (∀ w0,CB 152 #[Ag ((⟨#[1]⟩:BA)++a++b)] w0 (jn a b)):=fun w0=>jDu _ w0 (by omega)
 have a0:(⟨#[1]⟩:BA).size=1:=rfl;go_enter func203,ntmps203
 go_wp2_with fail
 refine(HS _).mono ?_;rintro e w1 ⟨rfl,b1⟩;go_wp2
 go_ret
 exact⟨rfl,b1⟩
end Go.Proofs.YtcaejlalnjnifaaGreat
namespace Go.Proofs.YtcaejlalnjnifaaGreat
open Gt (nb hf)
abbrev SpV (p s:Int):Aj:=Ai #[p,s]
theorem Tryz.infoSp:(Tryz.prog.info? 243).map (·.size)=M 2:=by kernel_rfl
theorem jQl (p:Nat) (h:p<=1048576):bits .xor Ar (p:Int) 1=((nb p:Nat):Int):=by
 rw[<-Gt.nb_xor];exact jCf p 1 (by omega) (by omega)
theorem QW (s:Nat) (w:Ad) (hs:s<=1048576):CS 242 #[(s:Int)] w (Ao Ar ((hf s:Nat):Int)):=by
 obtain⟨q,hq⟩:∃ q,hf s=q:=⟨_,rfl⟩;have h1:IntKind.i64.wrap ((s:Int)+1)=(s:Int)+1:=by rw[A8];omega
 have h2:((s:Int)+1).tdiv 2=(q:Int):=by rw[Dz (by omega),<-hq];unfold hf;omega
 have h3:IntKind.i64.wrap (q:Int)=(q:Int):=by unfold hf at hq;rw[A8];omega
 rw[hq];go_enter func242,ntmps242
 go_wp2
 go_ret
 exact⟨rfl,rfl⟩
def inT (p s:Int):Bool:=decide (0<=p/\p<s/\s<=64)
theorem xN (p s:Int) (w:Ad):CB 228 #[SpV p s] w (inT p s):=by
 by_cases h1:0<=p
 .by_cases h2:p<s
  .by_cases h3:s<=64
   have HI:H (inT p s=Aw):=by show _=_;simp[inT,h1,h2,h3]
   rotate_left;have HI:H (inT p s=Av):=by show _=_;simp[inT];omega
   rotate_left;all_goals
    go_enter func228,ntmps228
    go_wp2
    go_ret
    exact⟨by rw[HI.out];rfl,(Az _ _).alloc (Ay _) _⟩
  .have HI:H (inT p s=Av):=by show _=_;simp[inT];omega
   go_enter func228,ntmps228
   go_wp2
   go_ret
   exact⟨by rw[HI.out];rfl,(Az _ _).alloc (Ay _) _⟩
 .have HI:H (inT p s=Av):=by show _=_;simp[inT];omega
  go_enter func228,ntmps228
  go_wp2
  go_ret
  exact⟨by rw[HI.out];rfl,(Az _ _).alloc (Ay _) _⟩
theorem vZ (p s:Nat) (w:Ad) (hp:p<=1048576):CB 230 #[SpV (p:Int) (s:Int)] w (Ah #[Ao Ar ((nb p:Nat):Int),(decide (nb p<s))]):=by
 have hx:=jQl p hp;have hd:decide ((nb p:Int)<(s:Int))=decide (nb p<s):=by simp
 generalize nb p=q at hx hd;go_enter func230,ntmps230
 go_wp2_with fail
 go_quiet (fail)
 go_wp2
 go_ret2
 exact⟨by first|rfl|(rw[<-hd];rfl),xV ((Az _ _).alloc (Ay _) _) _⟩
theorem QX (p s:Nat) (w:Ad) (hp:p<=1048576) (hs:s<=1048576):CB 229 #[SpV (p:Int) (s:Int)] w (SpV ((p / 2:Nat):Int) ((hf s:Nat):Int)):=by
 obtain⟨q,hq⟩:∃ q,p / 2=q:=⟨_,rfl⟩;have h2:(p:Int).tdiv 2=(q:Int):=by rw[Dz (by omega),<-hq];omega
 have h3:IntKind.i64.wrap (q:Int)=(q:Int):=by rw[A8];omega
 rw[hq];clear hq;obtain⟨w1,b0⟩:=nmH ((w.alloc (J #[(p:Int),(s:Int)] 243)).alloc (J #[(),()] 243));have K1:H (Row w1 w 243 #[(p:Int),(s:Int)]/\Row w1 (w.1.size+1) 243 #[(),()]/\Ab w w w1):=by
  rw[b0.out];refine⟨(Row.new w _ _).alloc _,?_,((Az _ _).alloc (Ay _) _).alloc (by simp) _⟩;have:=Row.new (w.alloc (J #[(p:Int),(s:Int)] 243)) #[(),()] 243
  rw[show (w.alloc (J #[(p:Int),(s:Int)] 243)).1.size=w.1.size+1 by simp] at this;exact this
 obtain⟨r,hr⟩:∃ r,hf s=r:=⟨_,rfl⟩;have a0:=fun W=>QW s W hs
 rw[hr] at a0 |-;have KS:H (∀ W,CS 242 #[(s:Int)] W (r:Int)):=a0;clear a0 hr;go_enter func229,ntmps229
 go_wp2_with fail
 rw[<-b0.out];have c0:=K1.1.cell 0;have c1:=K1.1.cell 1;have d0:=K1.2.1.cell 0;have d1:=K1.2.1.cell 1;have f0:=K1.2.1.free 0;have f1:=K1.2.1.free 1;simp at c0 c1 d0 d1;go_still_tail 7,Tryz.mixed
 still_call (KS _)
 repeat still_step
 refine Gu ?_;rw[qO];have HR:=((K1.2.1.drew.set 0 (q:Int)).set 1 (r:Int));have HB:H (Ab w w ((w1.drew.setCell (Q (w.1.size+1) 0 I) (q:Int)).setCell (Q (w.1.size+1) 1 I) (r:Int))):=(K1.2.2.drew.setCell (by simp) _).setCell (by simp) _;go_wp2
 refine B7 (Cs rfl _ _ (w.1.size+1) 243 _ (0,0) _ rfl HR underlying243 rfl Tryz.infoSp) rfl ?_;exact⟨rfl,HB⟩
end Go.Proofs.YtcaejlalnjnifaaGreat
namespace Go.Proofs.YtcaejlalnjnifaaGreat
end Go.Proofs.YtcaejlalnjnifaaGreat
namespace Go.Proofs.YtcaejlalnjnifaaGreat
open Go.ChangeShapes Go.WideShapes Go.ChangeAt Go.RowKit Go.Shelf
open Gt (nb hf nm)
abbrev jSh (s:Nat×Nat):Array Aj:=#[Ao Ar (s.1:Int),Ao Ar ((nb s.1:Nat):Int)]
abbrev jOk (s:Nat×Nat):Prop:=1<s.2/\nb s.1<s.2/\s.1<s.2/\s.2<=64
abbrev jNx (s:Nat×Nat):Nat×Nat:=nm (s.1 / 2) (hf s.2)
abbrev jFin (s:Nat×Nat):Prop:=s.2<=1
theorem jEa (f:FuncId):Fence.wide.fn f=True:=rfl
theorem JB:Fence.wide.depth=I:=rfl
theorem jAy (i n:Nat) (hi:i<n) (hn:n<=64):jOy prog 217 (SpV (i:Int) (n:Int)) jSh jOk jNx jFin (nm i n):=by
 intro nn m l J W hJ hY hm h0;subst hm;have KY:H (∀ s W1,jOk s->J s W1->W.1.size<W1.1.size->YieldAt Fence.wide m prog l (jSh s) W1 fun e W'=>e=Ae Aw/\J (jNx s) W'/\W.1.size<W'.1.size/\W'.1[W.1.size]?=W1.1[W.1.size]?):=hY;clear hY;have KJ:H (∀ s A B,J s A->A.grownBy B (M W.1.size)->J s B):=hJ;clear hJ;have x0:=jEa;have v0:=JB;obtain⟨b,hb⟩:∃ b,W.1.size=b:=⟨_,rfl⟩;have KW:H (W.1.size=b):=hb;refine callsIn_of_wp func217 rfl trivial ?_ rfl;simp only[ntmps217,E4,Fu,Gc,Nat.reduceAdd,Nat.reduceSub,Es,Et,Fm,E8,Em,Fc];gi_wp2
 gi_loopg [] n (fun gk wr=>∃ p s:Nat,s=gk/\p<s/\s<=64/\Row wr b 243 #[(p:Int),(s:Int)]/\H (J (nm p s) wr))
 case atStart=>
  refine⟨i,n,rfl,hi,hn,?_,KJ _ _ _ h0 (Fa _ _ _)⟩;rw[<-hb];exact Row.new W _ _
 case round=>
  obtain⟨p,s,rfl,t0,hs,hr,HJ⟩:=hrel;clear h0;have c0:=hr.cell 0;have c1:=hr.cell 1;simp at c0 c1;by_cases h1:s<=1
  .have s0:¬ (1:Int)<(s:Int):=by omega
   have HE:H (J (p,s) wr):=by have:=HJ.out;rw[Gt.nm_one p h1] at this;exact this
   gi_wp2
   go_end0
   exact⟨⟨_,rfl⟩,p,s,h1,HE⟩
  .have s0:(1:Int)<(s:Int):=by omega
   have q0:b<wr.1.size:=hr.lt;obtain⟨d,hd⟩:∃ d,decide (nb p<s)=d:=⟨_,rfl⟩;have KN:H (∀ w0,CB 230 #[SpV (p:Int) (s:Int)] w0 (Ah #[Ao Ar ((nb p:Nat):Int),.bool d])):=by
    have:=fun w0=>vZ p s w0 (by omega)
    rw[hd] at this;exact this
   have KR:H (Row wr b 243 #[(p:Int),(s:Int)]):=hr;have KA:H (∀ w0,CB 229 #[SpV (p:Int) (s:Int)] w0 (SpV ((p / 2:Nat):Int) ((hf s:Nat):Int))):=fun w0=>QX p s w0 (by omega) (by omega)
   obtain⟨p',j0⟩:∃ p',p / 2=p':=⟨_,rfl⟩;obtain⟨s',i0⟩:∃ s',hf s=s':=⟨_,rfl⟩;have hps':p'<s'/\s'<s:=by unfold hf at i0;omega
   rw[j0,i0] at KA;clear hr;gi_wp2_with fail
   refine(Du.2 (KN _)).mono ?_;rintro e w1 ⟨rfl,d0⟩;cases d with
   | false=>
    have f0:¬ nb p<s:=by simpa using hd
    have R1:=KR.below d0 q0;have e0:=R1.cell 0;have e1:=R1.cell 1;have g0:=R1.free 0;have g1:=R1.free 1;simp at e0 e1;have a0:H (J (nm p' s') w1):=by
     have:=KJ _ _ _ HJ (xE _ d0)
     rw[Gt.nm_no p h1 f0,j0,i0] at this;exact this
    clear c0 c1;gi_wp2_with fail
    refine(Du.2 (KA _)).mono ?_;rintro e w2 ⟨rfl,n0⟩;have R2:=R1.below n0 R1.lt;have R3:=(R2.set 0 (p':Int)).set 1 (s':Int);have HJ2:H (J (nm p' s') ((w2.setCell (Q b 0 I) (p':Int)).setCell (Q b 1 I) (s':Int))):=by
     have hg:=xE (M b) n0;rw[<-KW.out] at hg |-;exact KJ _ _ _ (KJ _ _ _ (KJ _ _ _ a0 hg) (jN _ _ _ _)) (jN _ _ _ _)
    have e0:=R2.cell 0;have e1:=R2.cell 1;have g0:=R2.free 0;have g1:=R2.free 1;simp at e0 e1 R3;gi_wp2
    gi_roundg s'
    case measure=>exact hps'.2
    case rel=>exact⟨p',s',rfl,hps'.1,by omega,R3,HJ2⟩
   | true=>
    have f0:nb p<s:=by simpa using hd
    have R1:=KR.below d0 q0;have e0:=R1.cell 0;have e1:=R1.cell 1;simp at e0 e1;have a0:J (p,s) w1:=by
     have:=KJ _ _ _ HJ (xE _ d0)
     rw[Gt.nm_yes p h1 f0] at this;exact this
    obtain⟨fn,r0,b0,k0,hy,hR⟩:=KY (p,s) w1 ⟨by omega,f0,t0,hs⟩ a0 (by rw[KW.out];exact R1.lt);have HR:H (RoundIn Fence.wide m prog l fn r0 b0 k0 w1 fun e W'=>e=Ae Aw/\J (nm p' s') W'/\W.1.size<W'.1.size/\W'.1[W.1.size]?=w1.1[W.1.size]?):=by
     rw[<-j0,<-i0];exact hR
    clear hR a0 c0 c1;simp only[jSh] at hy;obtain⟨q,hq⟩:∃ q,nb p=q:=⟨_,rfl⟩;rw[hq] at hy;have y0:m+1-1=m:=rfl;gi_wp2
    try rw[hq]
    gi_wp2
    refine HR.mono ?_;rintro e w2 ⟨rfl,m0,u0,p0⟩;have R2:Row w2 b 243 #[(p:Int),(s:Int)]:=by
     unfold Row;rw[<-KW.out,p0,KW.out];exact R1
    have HJ2:H (J (nm p' s') w2):=m0;have e0:=R2.cell 0;have e1:=R2.cell 1;simp at e0 e1;clear p0 u0 m0;gi_wp2_with fail
    refine(Du.2 (KA _)).mono ?_;rintro e w3 ⟨rfl,o0⟩;have R3:=R2.below o0 R2.lt;have R4:=(R3.set 0 (p':Int)).set 1 (s':Int);have HJ3:H (J (nm p' s') ((w3.setCell (Q b 0 I) (p':Int)).setCell (Q b 1 I) (s':Int))):=by
     have hg:=xE (M b) o0;rw[<-KW.out] at hg |-;exact KJ _ _ _ (KJ _ _ _ (KJ _ _ _ HJ2 hg) (jN _ _ _ _)) (jN _ _ _ _)
    have e0:=R3.cell 0;have e1:=R3.cell 1;have g0:=R3.free 0;have g1:=R3.free 1;simp at e0 e1 R4;gi_wp2
    gi_roundg s'
    case measure=>exact hps'.2
    case rel=>exact⟨p',s',rfl,hps'.1,by omega,R4,HJ3⟩
end Go.Proofs.YtcaejlalnjnifaaGreat
namespace Go.Proofs.YtcaejlalnjnifaaGreat
open Gt (hf up jn)
theorem jK0 (a:OA) (m cap:Nat) (R:Nat->BA) (w:Ad) (h:jK w a m R) (hm:m<=64) (p0:∀ i,i<m->(R i).size=16):Ak prog 190 #[V a m cap] w fun e w'=>∃ g c,e=Ae (V (Q g 0 I) (hf m) c)/\jI w' w (Q g 0 I) (hf m) c (up m R)/\Ab w w w':=by
 obtain⟨i0,hi,s0,t0,u0⟩:=Ch Tryz.infoStr;have KH:H (jK w a m R):=h;have n0:H (∀ i,i<m->(R i).size=16):=p0;obtain⟨q,Hq⟩:=nnH (hf m);have hq:q<=32:=by rw[<-Hq.out];unfold hf;omega
 rw[Hq.out];have K1:H (jI (w.alloc (J #[] 9)) w (Q w 0 I) 0 0 (up m R)):=jIc w _;have KB1:H (Ab w w (w.alloc (J #[] 9))):=(Az _ _).alloc (Ay _) _;clear h p0;go_enter func190,ntmps190
 go_wp2
 go_loopw [3,4] (fun v i wr=>∃ (k G c:Nat),k<=q/\i=Ao Ar ((2*k:Nat):Int)/\v=V G k c/\jI wr w G k c (up m R)/\Ab w w wr) (fun _ i _=>2*q-(intOf i).toNat)
 case atStart=>exact⟨0,_,_,Bi _,rfl,rfl,K1,KB1⟩
 case round=>
  obtain⟨k,G,c,hk,rfl,rfl,b0,d0⟩:=hrel;clear K1 KB1;obtain⟨p,hp⟩:∃ p,2*k=p:=⟨_,rfl⟩;rw[hp];have r0:=d0.size;have q0:=(A0 b0 _ rfl).1;have c1:IntKind.i64.wrap ((p:Int)+2)=((2*(k+1):Nat):Int):=by rw[A8];omega
  have z0:IntKind.i64.wrap ((p:Int)+1)=(p:Int)+1:=by rw[A8];omega
  by_cases hlt:k<q
  .have j0:p<m:=by have:=Hq.out;unfold hf at this;omega
   have b1:(p:Int)<(m:Int):=by omega
   obtain⟨b,off,rfl,h0⟩:=KH.some (by omega);have m0:b<w:=A7 (h0 p j0);have g0:=fun i hi=>(d0.cell (p:=Q b (off+i) I) m0).trans (h0 i hi)
   have e1:=g0 p j0;have z1:=n0 p j0;by_cases hlt2:p+1<m
   .have e2:=g0 (p+1) hlt2;have z2:=n0 (p+1) hlt2;have f0:(p:Int)+1<(m:Int):=by omega
    have HU:H (jn (R p) (R (p+1))=up m R k):=by
     show _=_;unfold up;rw[A6 (by omega),hp]
    obtain⟨p1,v0⟩:∃ p1,p+1=p1:=⟨_,rfl⟩;rw[v0] at e2 z2 HU;have x0:(p:Int)+1=(p1:Int):=by omega
    have a1:(p1:Int)<(m:Int):=by omega
    rw[x0] at z0 f0;generalize R p=s1 at e1 z1 HU;generalize R p1=s2 at e2 z2 HU;have HJ:H (∀ w0,CB 203 #[s1,s2] w0 (jn s1 s2)):=fun w0=>jAm _ _ w0 (by omega) (by omega)
    generalize jn s1 s2=z at HJ HU;have KO:H (jI wr w G k c (up m R)):=b0;have KB:H (Ab w w wr):=d0;have lb:b<wr.1.size:=A7 e1;clear b0 d0 g0 h0 z1 z2;go_wp2_with fail
    go_region_held3 (fun w'=>w'.cell? (Q b (off+p) I)=M (Ag s1)/\w'.cell? (Q b (off+p1) I)=M (Ag s2)) (go_keep) ((first|(go_at_call 203;refine Ax (HJ _) ?_;rintro e w9 ⟨rfl,k0⟩;have e0:=jC k0;clear k0;have g1:=(e0.cell (p:=Q b (off+p) I) lb).trans e1;have g2:=(e0.cell (p:=Q b (off+p1) I) lb).trans e2;have o0:H (jI (w9.alloc (J #[z] 9)) w G k c (up m R)):=Cb (jI.below KO e0) _;have y0:=e0.size)|(guard_hyp y0;refine xI _ rfl _ _ _ rfl w 9 i0 _ 1 16 C3 hi s0 t0 u0 rfl (by omega) G k c _ rfl o0.out ⟨w9.1.size,0,I⟩ 1 1 [z] rfl rfl (Cf (cs:=#[Ag z]) (t:=9) (fr:=(0,0)) (Co w9 _)) (by simp[Aq]) (by unfold Au;omega) (by omega) (by simp;omega) ?_;intro g3 cap3 w3 c0 a0;have B9:Ab w w9 w3:=((Az _ w9).alloc (by omega) _).grown a0 (by simp;omega) (fun j hj=>by cases hj;exact q0);have k1:=(B9.cell (p:=Q b (off+p) I) m0).trans g1;have k2:=(B9.cell (p:=Q b (off+p1) I) m0).trans g2)))
    all_goals
     have HO:H (jI w3 w g3 (k+1) cap3 (up m R)):=by
      show jI _ _ _ _ _ _;unfold jI;rw[JY,<-HU.out];exact c0
     have HB3:H (Ab w w w3):=(KB.trans (e0.mono r0)).trans B9;clear c0 a0 B9 k1 k2 g1 g2 e1 e2 o0 e0 KO KB;go_wp2
     go_roundw
     case rel=>exact⟨k+1,g3,cap3,by omega,rfl,rfl,HO.out,HB3.out⟩
     case measure=>simp[intOf];omega
   .have f0:¬ (p:Int)+1<(m:Int):=by omega
    have HU:H (R p=up m R k):=by
     show _=_;unfold up;rw[A5 (by omega),A6 (by omega),hp]
    generalize R p=s1 at e1 z1 HU;clear g0 h0 z1;go_wp2_with (at_builtin;refine qC _ rfl _ _ 27 rfl w 9 i0 Ap 1 16 C3 hi s0 t0 u0 rfl (by decide) G k c _ rfl (Cb b0 _) ⟨wr.1.size,0,I⟩ 1 1 [s1] rfl rfl (Cf (cs:=#[Ag s1]) (t:=9) (fr:=(0,0)) (Co wr _)) (by simp[Aq]) (by unfold Au;omega) (by omega) (by simp;omega) ?_;intro g3 cap3 w3 c0 a0)
    have HO:H (jI w3 w g3 (k+1) cap3 (up m R)):=by
     show jI _ _ _ _ _ _;unfold jI;rw[JY,<-HU.out];exact c0
    have HB3:H (Ab w w w3):=(d0.alloc r0 _).grown (show World.grownBy _ w3 (M G) from a0) (by simp;omega) (fun j hj=>by cases hj;exact q0);clear c0 a0 b0;go_roundw
    case rel=>exact⟨k+1,g3,cap3,by omega,rfl,rfl,HO.out,HB3.out⟩
    case measure=>simp[intOf];omega
  .obtain rfl:k=q:=by omega
   have j0:¬ (p:Int)<(m:Int):=by have:=Hq.out;unfold hf at this;omega
   have HO:H (jI wr w G k c (up m R)):=b0;clear b0;go_wp2
   go_ret
   exact⟨G,c,rfl,HO,d0⟩
end Go.Proofs.YtcaejlalnjnifaaGreat
namespace Go.Proofs.YtcaejlalnjnifaaGreat
open Gt (lf)
theorem jJh (s:BA) (w:Ad) (hs:s.size<=2097152):CB 206 #[s] w (lf s):=by
 have h1:=jBu 0 s;have HS:H (∀ w0,CB 219 #[Ag ((⟨#[0]⟩:BA)++s)] w0 (lf s)):=fun w0=>jGm _ w0 (by omega)
 have a0:(⟨#[0]⟩:BA).size=1:=rfl;go_enter func206,ntmps206
 go_wp2_with fail
 refine(HS _).mono ?_;rintro e w1 ⟨rfl,b1⟩;go_wp2
 go_ret
 exact⟨rfl,b1⟩
theorem jH4 (s:BA) (w:Ad) (hs:s.size<=2097152):CB 104 #[s] w (lf s):=by
 have h1:=jBu 0 s;have HS:H (∀ w0,CB 152 #[Ag ((⟨#[0]⟩:BA)++s)] w0 (lf s)):=fun w0=>jDu _ w0 (by omega)
 have a0:(⟨#[0]⟩:BA).size=1:=rfl;go_enter func104,ntmps104
 go_wp2_with fail
 refine(HS _).mono ?_;rintro e w1 ⟨rfl,b1⟩;go_wp2
 go_ret
 exact⟨rfl,b1⟩
def pHd (k n i:Nat) (s:BA):BA:=strOfNums [(k:Int),(n:Int),(i:Int),((s.size % 256:Nat):Int)]++s
noncomputable def plf (k n i:Int) (s:BA):BA:=if isB k=Aw/\isB n=Aw/\isB i=Aw then lf (pHd k.toNat n.toNat i.toNat s) else ⟨#[]⟩
theorem jE0 {k n i:Nat} (s:BA) (hk:k<256) (hn:n<256) (hi:i<256):plf (k:Int) (n:Int) (i:Int) s=lf (pHd k n i s):=by
 unfold plf;rw[A6 ⟨qV hk,qV hn,qV hi⟩];simp
theorem jA2 {k n i:Int} (s:BA) (h:isB k=Av\/isB n=Av\/isB i=Av):plf k n i s=⟨#[]⟩:=by
 unfold plf;rw[A5];rintro⟨h1,h2,h3⟩;rcases h with h|h|h
 .rw[h] at h1;cases h1
 .rw[h] at h2;cases h2
 .rw[h] at h3;cases h3
theorem jRr (k n i:Int) (s:BA):(plf k n i s).size<=16:=by
 unfold plf;split
 .rw[Gt.lf_size];omega
 .decide
theorem jAv {w:Ad} {ty:TypeId} {a b c d:Int}:∀ i,i<4->(w.alloc (J #[Ao .u8 a,Ao .u8 b,Ao .u8 c,Ao .u8 d] ty)).cell? (Q w (0+i) I)=M (Ao .u8 ([a,b,c,d].getD i 0)):=by
 intro i hi;rw[Bq,cell_of_row _ _ _ _ ty _ (Co w _)];match i,hi with
 | 0,_=>rfl
 | 1,_=>rfl
 | 2,_=>rfl
 | 3,_=>rfl
theorem QR (k n i:Int) (s:BA) (w:Ad) (hs:s.size<=1048576):CB 184 #[k,n,i,s] w (plf k n i s):=by
 have KB:H (∀ (a:Int) (W:Ad),CS 205 #[Ao Ar a] W (isB a)):=fun a W=>jHg a W
 cases h1:isB k with
 | false=>
  rw[jA2 s (.inl h1)];go_enter func184,ntmps184
  go_wp2_with (go_at_call 205;refine(KB _ _).mono ?_;rintro e w' ⟨rfl,hw⟩;obtain rfl:=hw.symm)
  go_ret
  exact⟨rfl,Az _ _⟩
 | true=>
  cases h2:isB n with
  | false=>
   rw[jA2 s (.inr (.inl h2))];go_enter func184,ntmps184
   go_wp2_with (go_at_call 205;refine(KB _ _).mono ?_;rintro e w' ⟨rfl,hw⟩;obtain rfl:=hw.symm)
   go_ret
   exact⟨rfl,Az _ _⟩
  | true=>
   cases h3:isB i with
   | false=>
    rw[jA2 s (.inr (.inr h3))];go_enter func184,ntmps184
    go_wp2_with (go_at_call 205;refine(KB _ _).mono ?_;rintro e w' ⟨rfl,hw⟩;obtain rfl:=hw.symm)
    go_ret
    exact⟨rfl,Az _ _⟩
   | true=>
    obtain⟨k',hk,rfl⟩:=zS h1;obtain⟨n',hn,rfl⟩:=zS h2;obtain⟨i',hi,rfl⟩:=zS h3;have e1:IntKind.u8.wrap (k':Int)=(k':Int):=by rw[Di];omega
    have e2:IntKind.u8.wrap (n':Int)=(n':Int):=by rw[Di];omega
    have e3:IntKind.u8.wrap (i':Int)=(i':Int):=by rw[Di];omega
    obtain⟨sz,b0⟩:∃ sz,s.size=sz:=⟨_,rfl⟩;obtain⟨c,hc⟩:∃ c,sz % 256=c:=⟨_,rfl⟩;have e4:IntKind.u8.wrap (sz:Int)=(c:Int):=by rw[Di];omega
    have HP:H (plf (k':Int) (n':Int) (i':Int) s=lf (strOfNums [(k':Int),(n':Int),(i':Int),(c:Int)]++s)):=by show _=_;rw[jE0 s hk hn hi,pHd,b0,hc]
    rw[HP.out];have d0:=Dq (P:=prog) (w.alloc (J #[Ao .u8 (k':Int),Ao .u8 (n':Int),Ao .u8 (i':Int),Ao .u8 (c:Int)] 5)) 22 5 Cq D9 w 0 4 4 [(k':Int),(n':Int),(i':Int),(c:Int)] rfl jAv 9 C6;obtain⟨hd,HH⟩:=nnH (strOfNums [(k':Int),(n':Int),(i':Int),(c:Int)]);have e0:hd.size=4:=by rw[<-HH.out,Fx];rfl
    rw[HH.out] at d0 |-;have f0:(hd++s).size=4+sz:=by rw[Dx,e0,b0]
    have HL:H (∀ W,CB 206 #[Ag (hd++s)] W (lf (hd++s))):=fun W=>jJh _ W (by omega)
    have a0:Ab w w (w.alloc (J #[Ao .u8 (k':Int),Ao .u8 (n':Int),Ao .u8 (i':Int),Ao .u8 (c:Int)] 5)):=(Az _ _).alloc (Ay _) _;have c0:H _:=a0;clear a0 f0 hc HP;go_enter func184,ntmps184
    go_wp2_with (go_at_call 205;refine(KB _ _).mono ?_;rintro e w' ⟨rfl,hw⟩;obtain rfl:=hw.symm)
    refine(HL _).mono ?_;rintro e w1 ⟨rfl,b1⟩;go_wp2
    go_ret
    exact⟨rfl,jA c0 b1⟩
theorem JN (k n i:Int) (s:BA) (w:Ad) (hs:s.size<=1048576):CB 157 #[k,n,i,s] w (plf k n i s):=by
 have KB:H (∀ (a:Int) (W:Ad),CS 182 #[Ao Ar a] W (isB a)):=fun a W=>JX a W
 cases h1:isB k with
 | false=>
  rw[jA2 s (.inl h1)];go_enter func157,ntmps157
  go_wp2_with (go_at_call 182;refine(KB _ _).mono ?_;rintro e w' ⟨rfl,hw⟩;obtain rfl:=hw.symm)
  go_ret
  exact⟨rfl,Az _ _⟩
 | true=>
  cases h2:isB n with
  | false=>
   rw[jA2 s (.inr (.inl h2))];go_enter func157,ntmps157
   go_wp2_with (go_at_call 182;refine(KB _ _).mono ?_;rintro e w' ⟨rfl,hw⟩;obtain rfl:=hw.symm)
   go_ret
   exact⟨rfl,Az _ _⟩
  | true=>
   cases h3:isB i with
   | false=>
    rw[jA2 s (.inr (.inr h3))];go_enter func157,ntmps157
    go_wp2_with (go_at_call 182;refine(KB _ _).mono ?_;rintro e w' ⟨rfl,hw⟩;obtain rfl:=hw.symm)
    go_ret
    exact⟨rfl,Az _ _⟩
   | true=>
    obtain⟨k',hk,rfl⟩:=zS h1;obtain⟨n',hn,rfl⟩:=zS h2;obtain⟨i',hi,rfl⟩:=zS h3;have e1:IntKind.u8.wrap (k':Int)=(k':Int):=by rw[Di];omega
    have e2:IntKind.u8.wrap (n':Int)=(n':Int):=by rw[Di];omega
    have e3:IntKind.u8.wrap (i':Int)=(i':Int):=by rw[Di];omega
    obtain⟨sz,b0⟩:∃ sz,s.size=sz:=⟨_,rfl⟩;obtain⟨c,hc⟩:∃ c,sz % 256=c:=⟨_,rfl⟩;have e5:(sz:Int).tmod 256=(c:Int):=by rw[Ef (by omega)];omega
    have e4:IntKind.u8.wrap (c:Int)=(c:Int):=by rw[Di];omega
    have HP:H (plf (k':Int) (n':Int) (i':Int) s=lf (strOfNums [(k':Int),(n':Int),(i':Int),(c:Int)]++s)):=by show _=_;rw[jE0 s hk hn hi,pHd,b0,hc]
    rw[HP.out];have d0:=Dq (P:=prog) (w.alloc (J #[Ao .u8 (k':Int),Ao .u8 (n':Int),Ao .u8 (i':Int),Ao .u8 (c:Int)] 5)) 22 5 Cq D9 w 0 4 4 [(k':Int),(n':Int),(i':Int),(c:Int)] rfl jAv 9 C6;obtain⟨hd,HH⟩:=nnH (strOfNums [(k':Int),(n':Int),(i':Int),(c:Int)]);have e0:hd.size=4:=by rw[<-HH.out,Fx];rfl
    rw[HH.out] at d0 |-;have f0:(hd++s).size=4+sz:=by rw[Dx,e0,b0]
    have HL:H (∀ W,CB 104 #[Ag (hd++s)] W (lf (hd++s))):=fun W=>jH4 _ W (by omega)
    have a0:Ab w w (w.alloc (J #[Ao .u8 (k':Int),Ao .u8 (n':Int),Ao .u8 (i':Int),Ao .u8 (c:Int)] 5)):=(Az _ _).alloc (Ay _) _;have c0:H _:=a0;clear a0 f0 hc HP;go_enter func157,ntmps157
    go_wp2_with (go_at_call 182;refine(KB _ _).mono ?_;rintro e w' ⟨rfl,hw⟩;obtain rfl:=hw.symm)
    refine(HL _).mono ?_;rintro e w1 ⟨rfl,b1⟩;go_wp2
    go_ret
    exact⟨rfl,jA c0 b1⟩
end Go.Proofs.YtcaejlalnjnifaaGreat
namespace Go.Proofs.YtcaejlalnjnifaaGreat
end Go.Proofs.YtcaejlalnjnifaaGreat
namespace Go.Proofs.YtcaejlalnjnifaaGreat
open Go.ChangeShapes Go.WideShapes Go.ChangeAt Go.RowKit Go.Shelf
open Gt (nb hf nm pl)
def plI (i n:Int):Int:=if inT i n=Aw then ((pl i.toNat n.toNat:Nat):Int) else -1
theorem Row.grown {w w':Ad} {g j:Nat} {t:TypeId} {cs:Array Aj} (h:Row w g t cs) (hg:w.grownBy w' (M j)) (hj:g≠j):Row w' g t cs:=(hg.block g h.lt (by simpa using hj)).trans h
theorem qE {B j:Nat} {w0 w w':Ad} (h:Ab B w0 w) (hg:w.grownBy w' (M j)) (hB:B<=w) (hj:B<=j):Ab B w0 w':=h.grown hg hB (fun k e=>by cases e;exact hj)
theorem jE1 (i n:Nat) (w:Ad) (g0:inT (i:Int) (n:Int)=Aw):CB 215 #[(i:Int),(n:Int)] w (Ao Ar ((pl i n:Nat):Int)):=by
 have hi:i<n/\n<=64:=by simp[inT] at g0;omega
 have KT:H (∀ w0,CB 228 #[SpV (i:Int) (n:Int)] w0 Aw):=by
  have:=fun w0=>xN (i:Int) (n:Int) w0
  rw[g0] at this;exact this
 have o0:=jEa;have n0:=JB;refine(Du (n:=2)).1 ?_;refine callsIn_of_wp_marks func215 rfl trivial ?_ rfl;simp only[ntmps215,E4,Fu,Gc,Nat.reduceAdd,Nat.reduceSub,Es,Et,Fm,E8,Em,Fc];have R0:=Row.new w #[(i:Int),(n:Int)] 243;have a0:H (Ab w w (w.alloc (J #[(i:Int),(n:Int)] 243))):=(Az _ _).alloc (Ay _) _;gi_wp2_with fail
 refine(Du.2 (KT _)).mono ?_;rintro e w1 ⟨rfl,b0⟩;have R1:=R0.below b0 R0.lt;have R2:=R1.alloc (J #[()] 3);have c0:=R2.cell 0;have c1:=R2.cell 1;simp at c0 c1;have HN:H (Row (w1.alloc (J #[()] 3)) w1 3 #[Ao Ar ((0:Nat):Int)]/\Ab w w (w1.alloc (J #[()] 3))/\(w1.alloc (J #[()] 3)).1.size=w1.1.size+1/\w.1.size<=w1.1.size):=by
  have hb:=jA a0 b0;exact⟨Row.new _ _ _,hb.alloc hb.size _,by simp,hb.size⟩
 gi_wp2
 clear c0 c1 R2 R1 R0 a0;generalize w1.alloc (J #[()] 3)=w2 at HN |-;obtain⟨B,hB⟩:∃ B,w1.1.size=B:=⟨_,rfl⟩;rw[hB] at HN |-;clear hB;refine zN (recv:=SpV (i:Int) (n:Int)) (gf:=217) rfl (enters_of func217 (by kernel_rfl) rfl) (jAy i n hi.1 hi.2) (fun _=>rfl)
  (fun s W=>Ab w w W/\∃ c:Nat,Row W B 3 #[(c:Int)]/\c+pl s.1 s.2=pl i n) ?abide ?start ?round ?done
 case abide=>
  rintro s A A' j h1 h2 ⟨hb,c,hr,hc⟩ hg;exact⟨qE hb hg hb.size (by have:=HN.out;omega),c,hr.grown hg (by have:=HN.out;omega),hc⟩
 case start=>exact⟨HN.2.1,0,HN.1,by rw[Gt.pl_nm];omega⟩
 case round=>
  rintro l s W h0 ⟨hb,c,hr,hc⟩ p0;have q0:c<=64:=by
   have:=Gt.pl_le 6 i n (by omega)
   omega
  have m0:=Oper.semAt_some;gi_wp2
  refine⟨Ga _ _,?_⟩;intro W2 d0 r0;have r2:=hr.grown d0 (by have:=HN.out;omega);have i0:=qE hb d0 hb.size (by have:=HN.out;omega);have e0:=r2.cell 0;have f0:=r2.free 0;simp at e0;obtain⟨c1,j0⟩:∃ c1,c+1=c1:=⟨_,rfl⟩;have hw:IntKind.i64.wrap ((c:Int)+1)=(c1:Int):=by rw[A8];omega
  have HR:H (Row (W2.setCell (Q B 0 I) (c1:Int)) B 3 #[(c1:Int)]):=r2.set 0 (c1:Int);have HB:H (Ab w w (W2.setCell (Q B 0 I) (c1:Int))):=i0.setCell (by have:=HN.out;simp;omega) _;have HC:H (c1+pl (jNx s).1 (jNx s).2=pl i n):=by
   have h1:=h0.1;rw[Gt.pl_yes s.1 (by omega) h0.2.1] at hc;show _=_;rw[Gt.pl_nm];omega
  clear j0;gi_wp2
  exact⟨by simp,fun j h1 h2=>Df _ _ _ _ (by have:=HN.out;simp;omega),HB.out,c1,HR.out,HC.out⟩
 case done=>
  rintro s W hf ⟨hb,c,hr,hc⟩ hK;have e0:=hr.cell 0;simp at e0;have k0:c=pl i n:=by rw[Gt.pl_one _ hf] at hc;omega
  gi_wp2
  refine⟨by simp,.inl ⟨_,_,rfl,run_takeDeferred hK,?_⟩⟩;exact⟨_,results_tmp rfl _ _ _,by rw[<-k0];rfl,qE hb (qQ _ _ _) hb.size (by have:=HN.out;omega)⟩
theorem XS (i n:Int) (w:Ad):CB 215 #[i,n] w (plI i n):=by
 cases hin:inT i n with
 | true=>
  obtain⟨i',rfl⟩:∃ i':Nat,i=(i':Int):=⟨i.toNat,by simp[inT] at hin;omega⟩;obtain⟨n',rfl⟩:∃ n':Nat,n=(n':Int):=⟨n.toNat,by simp[inT] at hin;omega⟩;have e:plI (i':Int) (n':Int)=((pl i' n':Nat):Int):=by unfold plI;rw[A6 hin];simp
  rw[e];exact jE1 i' n' w hin
 | false=>
  have e:plI i n = -1:=by unfold plI;rw[hin];rfl
  rw[e];have KT:H (∀ w0,CB 228 #[SpV i n] w0 Av):=by
   have:=fun w0=>xN i n w0
   rw[hin] at this;exact this
  go_enter func215,ntmps215
  go_wp2_with fail
  refine(KT _).mono ?_;rintro e w1 ⟨rfl,a0⟩;have hb:=jA ((Az _ w).alloc (Ay _) (J #[i,n] 243)) a0;go_wp2
  go_ret
  exact⟨rfl,hb⟩
end Go.Proofs.YtcaejlalnjnifaaGreat
namespace Go.Proofs.YtcaejlalnjnifaaGreat
open Gt (nb hf pl)
theorem jFj (p s:Nat) (hp:p<s) (hs:s<=64):IntKind.i64.wrap ((p:Int)+1)=(p:Int)+1/\(p:Int).tmod 2=(p:Int) % 2/\IntKind.i64.wrap (2*((p:Int) % 2))=2*((p:Int) % 2)/\IntKind.i64.wrap ((p:Int)+1-2*((p:Int) % 2))=((nb p:Nat):Int)/\(p:Int).tdiv 2=((p / 2:Nat):Int)/\IntKind.i64.wrap ((p / 2:Nat):Int)=((p / 2:Nat):Int)/\IntKind.i64.wrap ((s:Int)+1)=(s:Int)+1/\((s:Int)+1).tdiv 2=((hf s:Nat):Int)/\IntKind.i64.wrap ((hf s:Nat):Int)=((hf s:Nat):Int):=by
 refine⟨by rw[A8];omega,by rw[Ef (by omega)],by rw[A8];omega,?_,by rw[Dz (by omega)];omega,by rw[A8];omega,by rw[A8];omega,by rw[Dz (by omega)];unfold hf;omega,by unfold hf;rw[A8];omega⟩;rw[Gt.nb_model,A8];have:nb p<=p+1:=by unfold nb;split <;> omega
 omega
theorem ZP {x a b:Int} (h:¬ (a<=x/\x<=b)):inB x a b=Av:=by unfold inB;simpa using h
theorem QK {x a b:Int} (h:a<=x/\x<=b):inB x a b=Aw:=by unfold inB;simpa using h
theorem jB5 (i n:Int) (w:Ad):CS 202 #[i,n] w (plI i n):=by
 by_cases hn:1<=n/\n<=64
 .have KN:=QK hn;have f0:IntKind.i64.wrap (n-1)=n-1:=by rw[A8];omega
  by_cases hi:0<=i/\i<=n-1
  .have KI:=QK hi;obtain⟨i',rfl⟩:∃ i':Nat,i=(i':Int):=⟨i.toNat,by omega⟩;obtain⟨n',rfl⟩:∃ n':Nat,n=(n':Int):=⟨n.toNat,by omega⟩;have d0:inT (i':Int) (n':Int)=Aw:=by simp[inT];omega
   have e:plI (i':Int) (n':Int)=((pl i' n':Nat):Int):=by unfold plI;rw[A6 d0];simp
   rw[e];obtain⟨N,hN⟩:∃ N,pl i' n'=N:=⟨_,rfl⟩;have e0:N<=6:=by rw[<-hN];exact Gt.pl_le 6 _ _ (by omega)
   have HN:=hd hN;rw[hN];go_enter func202,ntmps202
   go_wp2_with (go_at_call 43;refine(jM _ _ _ _).mono ?_;rintro e w' ⟨rfl,hw⟩;obtain rfl:=hw.symm)
   go_loop [0,1,5] (fun vi vn vc=>∃ p s c:Nat,p<s/\s<=64/\c<=6/\H (c+pl p s=N)/\vi=Ao Ar (p:Int)/\vn=Ao Ar (s:Int)/\vc=Ao Ar (c:Int)) (fun _ vn _=>(intOf vn).toNat)
   case atStart=>exact⟨i',n',0,by omega,by omega,by omega,by show 0+_=_;rw[HN.out];omega,rfl,rfl,rfl⟩
   case round=>
    obtain⟨p,s,c,hp,hs,hc,HC,rfl,rfl,rfl⟩:=hrel;by_cases h1:s<=1
    .have c0:¬ (1:Int)<(s:Int):=by omega
     have HE:H (c=N):=by have:=HC.out;rw[Gt.pl_one p h1] at this;show _=_;omega
     go_wp2
     go_ret
     exact⟨by rw[<-HE.out];rfl,rfl⟩
    .have c0:(1:Int)<(s:Int):=by omega
     obtain⟨u1,u2,u3,u4,u5,u6,u7,u8,u9⟩:=jFj p s hp hs;have a0:p / 2<hf s/\hf s<s:=by unfold hf;omega
     by_cases hb:nb p<s
     .have HC2:H (c+1+pl (p / 2) (hf s)=N):=by have:=HC.out;rw[Gt.pl_yes p h1 hb] at this;show _=_;omega
      have b0:((nb p:Nat):Int)<(s:Int):=by omega
      have hc2:c+1<=6:=by have:=HC2.out;omega
      generalize nb p=q at u4 b0;generalize p / 2=p' at u5 u6 a0 HC2;generalize hf s=s' at u8 u9 a0 HC2;go_wp2
      go_round
      case rel=>exact⟨p',s',c+1,by omega,by omega,hc2,HC2,rfl,rfl,by go_num⟩
      case measure=>simp[intOf];omega
     .have HC2:H (c+pl (p / 2) (hf s)=N):=by have:=HC.out;rw[Gt.pl_no p h1 hb] at this;exact this
      have b0:¬ ((nb p:Nat):Int)<(s:Int):=by omega
      generalize nb p=q at u4 b0;generalize p / 2=p' at u5 u6 a0 HC2;generalize hf s=s' at u8 u9 a0 HC2;go_wp2
      go_round
      case rel=>exact⟨p',s',c,by omega,by omega,hc,HC2,rfl,rfl,rfl⟩
      case measure=>simp[intOf];omega
  .have KI:=ZP hi;have e:plI i n = -1:=by unfold plI;rw[show inT i n=Av by simp[inT];omega];rfl
   rw[e];go_enter func202,ntmps202
   go_wp2_with (go_at_call 43;refine(jM _ _ _ _).mono ?_;rintro e w' ⟨rfl,hw⟩;obtain rfl:=hw.symm)
   go_ret
   exact⟨rfl,rfl⟩
 .have KN:=ZP hn;have e:plI i n = -1:=by unfold plI;rw[show inT i n=Av by simp[inT];omega];rfl
  rw[e];go_enter func202,ntmps202
  go_wp2_with (go_at_call 43;refine(jM _ _ _ _).mono ?_;rintro e w' ⟨rfl,hw⟩;obtain rfl:=hw.symm)
  go_ret
  exact⟨rfl,rfl⟩
end Go.Proofs.YtcaejlalnjnifaaGreat
namespace Go.Proofs.YtcaejlalnjnifaaGreat
def aS (n:Nat) (S:Nat->BA):Bool:=decide (∀ i,i<n->(S i).size=16)
theorem jCl {n:Nat} {S:Nat->BA} (h:∀ i,i<n->(S i).size=16):aS n S=Aw:=by unfold aS;simpa using h
theorem jQt {n k:Nat} {S:Nat->BA} (hk:k<n) (h:(S k).size≠16):aS n S=Av:=by unfold aS;simp;exact⟨k,hk,h⟩
theorem jIi {n:Nat} {S:Nat->BA}:aS n S=Aw↔∀ i,i<n->(S i).size=16:=by unfold aS;simp
theorem zE (a:OA) (n cap:Nat) (S:Nat->BA) (w:Ad) (h:jK w a n S) (hn:n<=1048576) (hL:∀ i,i<n->(S i).size<=Au):CS 216 #[V a n cap] w (aS n S):=by
 unfold Au at hL;have KH:H (jK w a n S):=h;have KL:H (∀ i,i<n->(S i).size<=9223372036854775807):=hL;clear h hL;go_enter func216,ntmps216
 go_wp2
 go_loop [7] (fun i=>∃ k:Nat,k<=n/\i=Ao Ar k/\H (∀ i,i<k->(S i).size=16)) (fun i=>n-(intOf i).toNat)
 case atStart=>exact⟨0,Bi _,rfl,fun i hi=>by omega⟩
 case round=>
  obtain⟨k,hk,rfl,HS⟩:=hrel;by_cases hlt:k<n
  .obtain⟨b,off,rfl,hc⟩:=KH k hlt;have b0:(k:Int)<(n:Int):=by omega
   have hl:=KL k hlt;obtain⟨s,hs⟩:∃ s,S k=s:=⟨_,rfl⟩;rw[hs] at hc hl;by_cases h16:s.size=16
   .have a0:(s.size:Int)=16:=by omega
    have HS2:H (∀ i,i<k+1->(S i).size=16):=fun i hi=>by
     by_cases e:i=k
     .subst e;rw[hs];exact h16
     .exact HS i (by omega)
    clear h16 hs;go_wp2
    go_round
    case rel=>exact⟨k+1,by omega,by go_num,HS2⟩
    case measure=>simp[intOf];omega
   .have a0:((s.size:Int) !=16)=Aw:=by simp;omega
    have HE:H (aS n S=Av):=jQt hlt (by rw[hs];exact h16);clear h16 hs;go_wp2
    go_ret
    exact⟨by rw[HE.out];rfl,rfl⟩
  .obtain rfl:k=n:=by omega
   have HE:H (aS k S=Aw):=jCl HS;go_wp2
   go_ret
   exact⟨by rw[HE.out];rfl,rfl⟩
def lvB (n:Nat) (S:Nat->BA):Bool:=aS n S&&inB (n:Int) 1 64
theorem JZ (a:OA) (n cap:Nat) (S:Nat->BA) (w:Ad) (h:jK w a n S) (hn:n<=1048576) (hL:∀ i,i<n->(S i).size<=Au):CS 189 #[V a n cap] w (lvB n S):=by
 unfold Au at hL;have KH:=hd h;have KL:H (∀ i,i<n->(S i).size<=9223372036854775807):=hL;go_enter func189,ntmps189
 go_wp2
 go_loop [3] (fun i=>∃ k:Nat,k<=n/\i=Ao Ar k/\H (∀ i,i<k->(S i).size=16)) (fun i=>n-(intOf i).toNat)
 case atStart=>exact⟨0,Bi _,rfl,fun i hi=>by omega⟩
 case round=>
  obtain⟨k,hk,rfl,HS⟩:=hrel;by_cases hlt:k<n
  .obtain⟨b,off,rfl,hc⟩:=KH k hlt;have b0:(k:Int)<(n:Int):=by omega
   have hl:=KL k hlt;obtain⟨s,hs⟩:∃ s,S k=s:=⟨_,rfl⟩;rw[hs] at hc hl;by_cases h16:s.size=16
   .have a0:(s.size:Int)=16:=by omega
    have HS2:H (∀ i,i<k+1->(S i).size=16):=fun i hi=>by
     by_cases e:i=k
     .subst e;rw[hs];exact h16
     .exact HS i (by omega)
    go_wp2
    go_round
    case rel=>exact⟨k+1,by omega,by go_num,HS2⟩
    case measure=>simp[intOf];omega
   .have a0:((s.size:Int) !=16)=Aw:=by simp;omega
    have HE:H (lvB n S=Av):=by show _=_;unfold lvB;rw[jQt hlt (by rw[hs];exact h16)];rfl
    go_wp2
    go_ret
    exact⟨by rw[HE.out];rfl,rfl⟩
  .obtain rfl:k=n:=by omega
   have HE:H (lvB k S=inB (k:Int) 1 64):=by show _=_;unfold lvB;rw[jCl HS.out];rfl
   go_wp2_with (go_at_call 43;refine(jM _ _ _ _).mono ?_;rintro e w' ⟨rfl,hw⟩;obtain rfl:=hw.symm)
   go_ret
   exact⟨by rw[HE.out];rfl,rfl⟩
set_option maxRecDepth 100000 in
theorem jBj (s:BA) (w:Ad) (p0:s.size<=1048576):CB 160 #[s] w s:=by
 by_cases h0:s.size=0
 .have hs:s=⟨#[]⟩:=by
   apply ByteArray.ext
   exact Array.eq_empty_of_size_eq_zero h0
  subst hs;go_enter func160,ntmps160
  go_wp2
  go_ret
  exact⟨rfl,Az _ _⟩
 .obtain⟨i0,hi,n0,b0,o0⟩:=Ch Tryz.infoByte;have a0:(Tryz.prog.info? 5).map (·.size)=some 1:=by rw[hi];simp[b0]
  have j0:Tryz.prog.cellsOf 5=1:=by simp[Program.cellsOf,hi,b0]
  obtain⟨M,hM⟩:∃ M,M=madeCells (Ao .u8 0).cells (((s.size:Nat):Int).toNat*i0.size):=⟨_,rfl⟩;have q0:M.size=s.size:=by rw[hM,size_madeCells,b0];simp
  have s0:∀ W:Ad,(Instr.makeSlice 22 (Ao Ar (s.size:Int)) (Ao Ar (s.size:Int))).run prog W=.ok (V (Q W.1.size 0 I) s.size s.size) (W.alloc (J M 5)):=fun W=>by
   have h:=run_make (P:=prog) W 22 5 i0 (Ao .u8 0) Cq hi n0 Ar Ar (s.size:Int) (s.size:Int) (by omega) (by omega) (by rw[o0];omega) (by omega);rw[<-hM] at h;simpa using h
  clear hM;have k0:=Lib.run_copy_row_string (P:=prog) (w.alloc (J M 5)) 22 9 3 5 w 0 s.size s.size s M 5 Cq a0 (Co w _) (Ay _) (by omega);obtain⟨Y,hY⟩:∃ Y,Y=(M.toList.take 0++Lib.byteCells s.data.toList++M.toList.drop (0+s.size)).toArray:=⟨_,rfl⟩;rw[<-hY] at k0;have c0:Y.toList=Lib.byteCells s.data.toList:=by
   rw[hY,E9,List.take_zero,Em,List.drop_of_length_le (by rw[Cv];omega),List.append_nil]
  have r0:Y.size=s.size:=by rw[<-Cv,c0,Lib.byteCells_length,<-Lib.size_eq]
  have d0:((w.alloc (J M 5)).setRow w Y).1[w.1.size]?=some (J Y 5):=setRow_heap _ _ M _ 5 (0,0) (Co w _);have m0:s.data.toList≠[]:=fun e=>h0 (by rw[Lib.size_eq,e];rfl)
  have e0:=Lib.run_unsafeString_row (P:=prog) ((w.alloc (J M 5)).setRow w Y) 221 3 9 5 underlying221 j0 w Y.size (by unfold World.shape?;rw[d0]) s.data.toList m0 (by rw[<-Lib.size_eq];omega) (by rw[<-Lib.size_eq];omega)
   (fun j x hx=>Lib.cells_of_row d0 Y.size j _ (by rw[Dl (by rw[Cv];exact Ay _),c0];simp[Lib.byteCells,hx]))
  rw[<-Lib.size_eq] at e0;clear hY;go_enter func160,ntmps160
  go_wp2
  go_ret
  have f0:Ab w w (w.alloc (J M 5)):=(Az _ w).alloc (Ay _) _;have g0:Ab w (w.alloc (J M 5)) ((w.alloc (J M 5)).setRow w Y):=⟨rfl,rfl,rfl,by simp,fun k hk=>Cj _ _ _ _ (by omega)⟩;exact⟨rfl,Lib.below_freeze (f0.trans g0) (p:=Q w 0 I) (Ay _) _⟩
theorem qN (s:BA) (w:Ad) (a0:s.size<=1048576):CB 120 #[s] w s:=by
 go_enter func120,ntmps120
 go_wp2_with fail
 refine(jBj s _ a0).mono ?_;rintro e w1 ⟨rfl,b1⟩;go_wp2
 go_ret
 exact⟨rfl,b1⟩
end Go.Proofs.YtcaejlalnjnifaaGreat
namespace Go.Proofs.YtcaejlalnjnifaaGreat
open Go.ChangeShapes Go.WideShapes Go.ChangeAt Go.RowKit Go.Shelf
open Gt (nb hf nm pl pr jn)
def prB (x:BA) (i n:Int) (k:Nat) (S:Nat->BA):Bool:=decide (x.size=16)&&decide ((k:Int)=plI i n)&&aS k S
def prS (x:BA) (i n:Int) (k:Nat) (S:Nat->BA):BA:=if prB x i n k S=Aw then pr x i.toNat n.toNat S 0 else ⟨#[]⟩
theorem jDl (x:BA) (i n:Int) (a:OA) (k cap:Nat) (S:Nat->BA) (w:Ad) (h:jK w a k S) (hk:k<=1048576) (hL:∀ i,i<k->(S i).size<=Au) (d0:prB x i n k S=Av):CB 204 #[x,Ao Ar i,n,V a k cap] w (Ah #[Zs,Av]):=by
 obtain⟨w1,c0⟩:=nmH (w.alloc (J #[V a k cap] 27));have K1:H (Row w1 w 27 #[V a k cap]/\Ab w w w1):=by rw[c0.out];exact⟨Row.new w _ _,(Az _ _).alloc (Ay _) _⟩
 have KP:H (∀ w0,CB 215 #[Ao Ar i,n] w0 (plI i n)):=fun w0=>XS i n w0
 have KA:H (∀ W,Ab w w W->CS 216 #[V a k cap] W (aS k S)):=fun W hb=>zE a k cap S W (h.below hb) hk hL
 have hc:=K1.1.cell 0;have g0:=K1.1.lt;simp at hc;obtain⟨r,hr⟩:∃ r,plI i n=r:=⟨_,rfl⟩;rw[hr] at KP;unfold prB at d0;rw[hr] at d0;by_cases h16:x.size=16
 .have e0:((x.size:Int) !=16)=Av:=by simp;omega
  by_cases hkr:(k:Int)=r
  .have f0:((k:Int) !=r)=Av:=by simp;exact hkr
   have i0:aS k S=Av:=by simpa [h16,hkr] using d0
   rw[i0] at KA;go_enter func204,ntmps204
   go_wp2_with fail
   rw[<-c0.out];go_region_held3 (fun w'=>w'.cell? (Q w 0 I)=M (V a k cap)) (go_keep) ((first|(go_at_call 215;refine Ax (KP _) ?_;rintro e w5 ⟨rfl,a0⟩;have b0:=jC a0;clear a0;have h0:=(b0.cell (p:=Q w 0 I) g0).trans hc)|(guard_hyp b0;go_at_call 216;refine Ax (KA _ (K1.2.trans (b0.mono K1.2.size))) ?_;rintro e w6 ⟨rfl,hw6⟩;obtain rfl:=hw6.symm)))
   go_wp2
   go_ret2
   exact⟨rfl,K1.2.trans (b0.mono K1.2.size)⟩
  .have f0:((k:Int) !=r)=Aw:=by simp;exact hkr
   go_enter func204,ntmps204
   go_wp2_with fail
   rw[<-c0.out];go_region_with (go_at_call 215;refine Ax (KP _) ?_;rintro e w5 ⟨rfl,a0⟩;have b0:=jC a0;clear a0;have h0:=(b0.cell (p:=Q w 0 I) g0).trans hc)
   all_goals go_wp2
   all_goals go_ret2
   all_goals exact⟨rfl,K1.2.trans (b0.mono K1.2.size)⟩
 .have e0:((x.size:Int) !=16)=Aw:=by simp;omega
  go_enter func204,ntmps204
  go_wp2_with fail
  rw[<-c0.out];go_quiet (fail)
  go_wp2
  go_ret2
  exact⟨rfl,xV K1.2 _⟩
end Go.Proofs.YtcaejlalnjnifaaGreat
