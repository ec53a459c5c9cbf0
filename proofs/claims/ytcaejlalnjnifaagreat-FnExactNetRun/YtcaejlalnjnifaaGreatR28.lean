import Derived.Test.YtcaejlalnjnifaaGreatR25
import Derived.Test.YtcaejlalnjnifaaGreatR24
set_option maxHeartbeats 8000000
set_option maxRecDepth 2000
open Go.Value renaming slice->V,int->Ao
open Option renaming some->M
open Go.RowKit renaming Hid->H
open Go renaming World->Ad
open Go.IntKind renaming i64->Ar
open Bool renaming false->Av,true->Aw
open Go.Proofs.Tryz
open Go.ChangeShapes Go.WideShapes Go.ChangeAt Go.RowKit
namespace Go.Proofs.YtcaejlalnjnifaaGreat
section
structure NdQ (d:Nd):Prop where
 n:d.n<=1048576
 k:∀ i,i<d.n->SlK (d.S i)
 s:∀ i,i<d.n->SlS (d.S i)
theorem QX (l:OA) (d:Nat) (zs:List Int) (x:Int) (w:Ad) (h:jH w l zs.length zs) (hn:zs.length<=1048576):CS 139 #[V l zs.length d,x] w (decide (x∈zs)):=by
 have KH:=hd h;obtain⟨bb,a0⟩:=nnH (decide (x∈zs));rw[a0.out];obtain⟨n,HN⟩:=nnH zs.length;rw[HN.out] at hn |-;go_enter func139,ntmps139
 go_wp2
 go_loopw [5] (fun vi wr=>∃ k:Nat,k<=n/\vi=Ao Ar (k:Int)/\wr=w/\H (∀ i,i<k->zs.getD i 0≠x)) (fun vi _=>n-(intOf vi).toNat)
 case atStart=>exact⟨0,Bi _,rfl,rfl,fun i hi=>Bo hi (Bk _)⟩
 case round=>
  obtain⟨k,hk,rfl,hw,HP⟩:=hrel;obtain rfl:=hw.symm;by_cases hlt:k<n
  .have b0:(k:Int)<(n:Int):=by omega
   obtain⟨bl,off,e1,hc⟩:=KH.some (by rw[HN.out];omega);subst e1;have x1:=hc k (by rw[HN.out];exact hlt);obtain⟨v,HV⟩:=nnH (zs.getD k 0);rw[HV.out] at x1;by_cases hv:v=x
   .have HI:H (bb=Aw):=by
     rw[<-a0.out];refine Bf ?_;rw[<-hv,<-HV.out,Bx,Bj (by rw[HN.out];exact hlt)];exact List.getElem_mem _
    have hb:(v==x)=Aw:=by simp[hv]
    go_wp2
    go_ret
    exact⟨by rw[HI.out];rfl,rfl⟩
   .have HP2:H (∀ i,i<k+1->zs.getD i 0≠x):=fun i hi=>by
     by_cases e:i=k
     .rw[e,HV.out];exact hv
     .exact HP i (by omega)
    have hb:(v==x)=Av:=by simp[hv]
    go_wp2
    go_roundw
    case rel=>exact⟨k+1,by omega,by go_num,trivial,HP2⟩
    case measure=>simp[intOf];omega
  .obtain rfl:k=n:=by omega
   have HI:H (bb=Av):=by
    rw[<-a0.out];refine Bg fun hx=>?_
    obtain⟨i,hi,e⟩:=List.getElem_of_mem hx;refine HP i (by rw[<-HN.out];exact hi) ?_;rw[Bx,Bj hi];exact e
   go_wp2
   go_ret
   exact⟨by rw[HI.out];rfl,rfl⟩
section
variable {w wr w':World} {A:Nat} {f:Int} {a:Option Addr} {n c:Nat} {l:Option Addr} {zl d:Nat} {v3:Value} {L:List Int} {gg len cc:Nat}
end
end
theorem jFq {g h:Nat->Nat} {c:Nat} (hg:∀ i,g i<=c+10*h i) (n:Nat):tot g n<=c*n+10*tot h n:=by
 induction n with
 | zero=>exact Bi _
 | succ n ih=>
  show tot g n+g n<=c*(n+1)+10*(tot h n+h n);have:=hg n
  rw[Nat.mul_succ];omega
theorem jO9 (d:Nd):wkN d<=2+10*wtN d:=by
 have h1:=jFq (g:=fun i=>wkS (d.S i)) (h:=fun i=>wtS (d.S i)) (c:=10) (fun i=>by unfold wkS wtS wtP;omega) d.n;unfold wkN wtN wtL;omega
theorem jOm (k:Nat) (Y:Nat->Sy) (m:Nat):ofy k Y m<=k+9*m+tot (fun i=>wtY (Y i)) m:=by
 induction m with
 | zero=>simp[ofy,tot]
 | succ m ih=>
  show ofy k Y m+9+(Y m).p.m<=k+9*(m+1)+(tot (fun i=>wtY (Y i)) m+wtY (Y m));have:(Y m).p.m<=wtY (Y m):=by unfold wtY wtP;omega
  omega
theorem jBh {n:Nat} {N:Nat->Nd} {zs:List Int} {m:Nat} {Y:Nat->Sy} (h:wtT n N zs m Y<=1048576):(∀ i,i<n->NdQ (N i))/\NtW n N zs m Y:=by
 unfold wtT jIs jG8 at h;have hw:∀ i,i<n->wtL (N i).n (N i).S<=1048576:=fun i hi=>by show wtN (N i)<=1048576;have:wtN (N i)<=tot (fun i=>wtN (N i)) n:=JC (g:=fun i=>wtN (N i)) hi;omega
 have hy:∀ i,i<m->wtY (Y i)<=1048576:=fun i hi=>by have:wtY (Y i)<=tot (fun i=>wtY (Y i)) m:=JC (g:=fun i=>wtY (Y i)) hi;omega
 refine⟨fun i hi=>?_,by omega,fun i hi=>?_,by omega,by omega,fun i hi=>?_,?_⟩
 .obtain⟨h1,h2,h3,_⟩:=jBg (hw i hi);exact⟨h1,h3,h2⟩
 .obtain⟨h1,h2,_,_⟩:=jBg (hw i hi);exact⟨h1,h2⟩
 .have:=hy i hi
  unfold wtY wtP at this;omega
 .have h1:=jFq (g:=fun i=>wkN (N i)) (h:=fun i=>wtN (N i)) (c:=2) (fun i=>jO9 (N i)) n;have h2:=jOm (mq2 n N zs) Y m;unfold mq3;unfold mq2 mq1 at h2 |-;omega
theorem Tryz.infoNtL2:(Tryz.prog.info? 63).map (·.size)=M 4:=by kernel_rfl
end Go.Proofs.YtcaejlalnjnifaaGreat
