import Derived.Test.YtcaejlalnjnifaaGreatP15
set_option maxHeartbeats 8000000
set_option maxRecDepth 2000
open Go.Value renaming slice->V,pointer->Af,string->Ag,tuple->Ah,agg->Ai,int->Ao,oneCell'->Aq
open Option renaming none->I,some->M
open Go.RowKit renaming Hid->H,Below->Ab
open Go.Addr renaming mk->Q
open Go renaming undef->O,World->Ad,Value->Aj,Calls->Ak,Addr->Al,maxLen->Au
open Go.Obj renaming cells->J
open Go.Proofs.Tryz renaming prog->Ac
open Go.Ending renaming returned->Ae
open ByteArray renaming empty->Ap
open Go.IntKind renaming i64->Ar
open Bool renaming false->Av,true->Aw
open Go.Proofs.Tryz
open Go.ChangeShapes Go.WideShapes Go.ChangeAt Go.RowKit
namespace Go.Proofs.YtcaejlalnjnifaaGreat
open Go.RowKit
def jU (T:Nat->BA) (m:Nat):Array Aj:=(sL T 64++[Ao Ar (m:Int)]).toArray
theorem vH (T:Nat->BA) (m:Nat):(jU T m).size=65:=by simp[jU,sL]
theorem vO (T:Nat->BA) (m i:Nat) (h:i<64):(jU T m)[i]?=M (Ag (T i)):=by
 unfold jU;rw[List.getElem?_toArray,Ea (by rw[qW];exact h),zA _ _ _ h]
theorem xG (T:Nat->BA) (m:Nat):(jU T m)[64]?=M (Ao Ar (m:Int)):=by
 unfold jU;rw[List.getElem?_toArray,Ds (by rw[qW];exact Ay _),qW];rfl
theorem jGg (T:Nat->BA) (m i:Nat) (s:BA) (h:i<64):(jU T m).setIfInBounds i s=jU (fun j=>if j=i then s else T j) m:=by
 apply Array.ext'
 unfold jU;rw[Array.toList_setIfInBounds,E9,E9,List.set_append_left _ _ (by rw[qW];exact h),jA5 _ _ _ _ h]
theorem jA3 {T T':Nat->BA} (m:Nat) (h:∀ i,i<64->T i=T' i):jU T m=jU T' m:=by unfold jU;rw[xQ h]
theorem jMv (T:Nat->BA) (m:Nat):(jU T m).all (·.oneCell')=Aw:=by
 unfold jU;simp[sL,Aq]
def RwV (T:Nat->BA) (m:Nat):Aj:=Ai (jU T m)
def noT:Nat->BA:=fun _=>Ap
theorem Tryz.infoRw:(Tryz.prog.info? 259).map (·.size)=M 65:=by kernel_rfl
theorem Tryz.zeroRw:(Tryz.prog.info? 259).bind (·.zero)=M (RwV noT 0):=by kernel_rfl
theorem Tryz.builtRw0:Tryz.prog.built 259 []=M (jU noT 0):=by kernel_rfl
theorem Tryz.builtRw (m:Nat):Tryz.prog.built 259 [(1,(m:Int))]=M (jU noT m):=by kernel_rfl
theorem jE4 (w:Ad):(Instr.alloc 259 Aw (Ah #[])).run prog w=.ok (Af (Q w 0 I)) (w.alloc (J (jU noT 0) 259)):=by
 have hz:=Tryz.zeroRw;cases hit:Tryz.prog.info? 259 with
 | none=>simp[hit] at hz
 | some it=>
  simp[hit] at hz;have ha:(zeroValue 259).run prog w=.ok (RwV noT 0) w:=by simp[zeroValue,typeInfo,hit,hz]
  unfold Instr.alloc;simp only[Fb,ha,Dy];rfl
section
variable {P:Program} {F:Fence} {n:Nat} {ops:Array Oper} {rest:List Oper} {o:Oper} {a:Act} {w:World} {Q:Exit->Act->World->Prop}
theorem jBp (hg:o.guard=I) (c0:∀ c,o.op≠.defer c) (b0:o.about P w a.eval=I) (v:Aj) (w':Ad) (a0:(execOp a.eval o).run P w=.ok (.value v) w') (h:wpListIn F n P ops Q rest (a.put o.dst v) w'):wpListIn F n P ops Q (o::rest) a w:=by
 refine wpListIn_plain hg fun K hK=>?_
 unfold Oper.wpIn;rw[Oper.semAt_plain F _ _ c0,a0,Oper.uponIn_value];exact⟨fun f hf=>(by rw[b0] at hf;cases hf),hK _ _ h⟩
theorem jPg (hg:o.guard=I) (c0:∀ c,o.op≠.defer c) (b0:o.about P w a.eval=I) (w':Ad) (a0:(execOp a.eval o).run P w=.ok .skip w') (h:wpListIn F n P ops Q rest (a.put o.dst O) w'):wpListIn F n P ops Q (o::rest) a w:=by
 refine wpListIn_plain hg fun K hK=>?_
 unfold Oper.wpIn;rw[Oper.semAt_plain F _ _ c0,a0,Oper.uponIn_skip];exact⟨fun f hf=>(by rw[b0] at hf;cases hf),hK _ _ h⟩
theorem jAd (hg:o.guard=I) (v:Aj) (w':Ad) (a0:(execOp a.eval o).run P w=.ok (.value v) w') (h:wpList P ops Q rest (a.put o.dst v) w'):wpList P ops Q (o::rest) a w:=by
 refine Gw hg fun K hK=>?_
 unfold Oper.wp;rw[a0,Oper.upon_value];exact hK _ _ h
theorem jRp (hg:o.guard=I) (w':Ad) (a0:(execOp a.eval o).run P w=.ok .skip w') (h:wpList P ops Q rest (a.put o.dst O) w'):wpList P ops Q (o::rest) a w:=by
 refine Gw hg fun K hK=>?_
 unfold Oper.wp;rw[a0,Oper.upon_skip];exact hK _ _ h
end
section
variable {F:Fence} {n:Nat} {ops:Array Oper} {rest:List Oper} {o:Oper} {a:Act} {w:World} {Q:Exit->Act->World->Prop}
theorem jLn (ho:o.op=.alloc 259):(execOp a.eval o).run Ac w=.ok (.value (Af (M ⟨w.1.size,0,I⟩))) (w.alloc (J (jU noT 0) 259)):=by
 unfold execOp;simp only[ho,Fb,jE4,Dy];rfl
theorem jR1 (x:Operand) (ho:o.op=.box 259 x) (T:Nat->ByteArray) (m:Nat) (hx:a.eval x=RwV T m):(execOp a.eval o).run Ac w=.ok (.value (Af (M ⟨w.1.size,0,I⟩))) (w.alloc (J (jU T m) 259)):=by
 unfold execOp;simp only[ho,hx,Fb,Instr.box,newVar,newRow,run_newObj_alloc,Gk,Dy];rfl
theorem jOv (x:Operand) (ho:o.op=.load 259 x) (g:Nat) (hx:a.eval x=Af g) (T:Nat->BA) (m:Nat) (hr:Row w g 259 (jU T m)):(execOp a.eval o).run prog w=.ok (.value (RwV T m)) w:=by
 unfold execOp;simp only[ho,hx,Instr.loadAt,Instr.sureAddr,Fb,Gk,Dy,run_loadVar_row w g 259 259 (jU T m) (0,0) _ hr underlying259 rfl (by rw[Tryz.infoRw,vH])];rfl
theorem jLo (x y:Operand) (ho:o.op=.store 259 x y) (g:Nat) (hx:a.eval x=Af g) (T:Nat->BA) (m:Nat) (hy:a.eval y=RwV T m) (T':Nat->BA) (m':Nat) (hr:Row w g 259 (jU T' m')):(execOp a.eval o).run prog w=.ok .skip (w.setRow g (jU T m)):=by
 unfold execOp;have a0:a.eval y=Ai (jU T m):=hy;simp only[ho,hx,a0,Instr.storeAt,Instr.sureAddr,Fb,Gk,Dy,run_storeVar_row w g 259 259 (jU T' m') (jU T m) hr (by rw[Tryz.infoRw,vH]) (by rw[vH,vH]) (jMv T m)]
theorem jQk (x:Operand) (ho:o.op=.build 259 #[(1,x)]) (m:Nat) (hx:a.eval x=Ao Ar (m:Int)):(execOp a.eval o).run prog w=.ok (.value (RwV noT m)) w:=by
 have hb:=run_build (P:=prog) w 259 #[(1,(m:Int))] (jU noT m) (Tryz.builtRw m);unfold execOp;simp[ho,hx,hb];rfl
theorem jNn (ho:o.op=.build 259 #[]):(execOp a.eval o).run prog w=.ok (.value (RwV noT 0)) w:=by
 have hb:=run_build (P:=prog) w 259 #[] (jU noT 0) Tryz.builtRw0;unfold execOp;simp[ho,hb];rfl
theorem xT (hg:o.guard=I) (ho:o.op=.alloc 259) (h:wpList Ac ops Q rest (a.put o.dst (Af (M ⟨w.1.size,0,I⟩))) (w.alloc (J (jU noT 0) 259))):wpList Ac ops Q (o::rest) a w:=jAd hg _ _ (jLn ho) h
theorem jSm (hg:o.guard=I) (x:Operand) (ho:o.op=.box 259 x) (T:Nat->ByteArray) (m:Nat) (hx:a.eval x=RwV T m) (h:wpList Ac ops Q rest (a.put o.dst (Af (M ⟨w.1.size,0,I⟩))) (w.alloc (J (jU T m) 259))):wpList Ac ops Q (o::rest) a w:=jAd hg _ _ (jR1 x ho T m hx) h
theorem jGa (hg:o.guard=I) (x:Operand) (ho:o.op=.load 259 x) (g:Nat) (hx:a.eval x=Af g) (T:Nat->BA) (m:Nat) (hr:Row w g 259 (jU T m)) (h:wpList prog ops Q rest (a.put o.dst (RwV T m)) w):wpList prog ops Q (o::rest) a w:=jAd hg _ _ (jOv x ho g hx T m hr) h
theorem vU (hg:o.guard=I) (x y:Operand) (ho:o.op=.store 259 x y) (g:Nat) (hx:a.eval x=Af g) (T:Nat->BA) (m:Nat) (hy:a.eval y=RwV T m) (T':Nat->BA) (m':Nat) (hr:Row w g 259 (jU T' m')) (h:wpList prog ops Q rest (a.put o.dst O) (w.setRow g (jU T m))):wpList prog ops Q (o::rest) a w:=jRp hg _ (jLo x y ho g hx T m hy T' m' hr) h
theorem jKe (hg:o.guard=I) (x:Operand) (ho:o.op=.build 259 #[(1,x)]) (m:Nat) (hx:a.eval x=Ao Ar (m:Int)) (h:wpList prog ops Q rest (a.put o.dst (RwV noT m)) w):wpList prog ops Q (o::rest) a w:=jAd hg _ _ (jQk x ho m hx) h
theorem jBx (hg:o.guard=I) (ho:o.op=.build 259 #[]) (h:wpList prog ops Q rest (a.put o.dst (RwV noT 0)) w):wpList prog ops Q (o::rest) a w:=jAd hg _ _ (jNn ho) h
theorem jJd (hg:o.guard=I) (ho:o.op=.alloc 259) (h:wpListIn F n Ac ops Q rest (a.put o.dst (Af (M ⟨w.1.size,0,I⟩))) (w.alloc (J (jU noT 0) 259))):wpListIn F n Ac ops Q (o::rest) a w:=jBp hg (by rw[ho];intro c hc;cases hc) (by simp[Oper.about,ho]) _ _ (jLn ho) h
theorem jSg (hg:o.guard=I) (x:Operand) (ho:o.op=.box 259 x) (T:Nat->ByteArray) (m:Nat) (hx:a.eval x=RwV T m) (h:wpListIn F n Ac ops Q rest (a.put o.dst (Af (M ⟨w.1.size,0,I⟩))) (w.alloc (J (jU T m) 259))):wpListIn F n Ac ops Q (o::rest) a w:=jBp hg (by rw[ho];intro c hc;cases hc) (by simp[Oper.about,ho]) _ _ (jR1 x ho T m hx) h
theorem jJe (hg:o.guard=I) (x:Operand) (ho:o.op=.load 259 x) (g:Nat) (hx:a.eval x=Af g) (T:Nat->BA) (m:Nat) (hr:Row w g 259 (jU T m)) (h:wpListIn F n prog ops Q rest (a.put o.dst (RwV T m)) w):wpListIn F n prog ops Q (o::rest) a w:=jBp hg (by rw[ho];intro c hc;cases hc) (by simp[Oper.about,ho]) _ _ (jOv x ho g hx T m hr) h
theorem jEm (hg:o.guard=I) (x y:Operand) (ho:o.op=.store 259 x y) (g:Nat) (hx:a.eval x=Af g) (T:Nat->BA) (m:Nat) (hy:a.eval y=RwV T m) (T':Nat->BA) (m':Nat) (hr:Row w g 259 (jU T' m')) (h:wpListIn F n prog ops Q rest (a.put o.dst O) (w.setRow g (jU T m))):wpListIn F n prog ops Q (o::rest) a w:=jPg hg (by rw[ho];intro c hc;cases hc) (by simp[Oper.about,ho]) _ (jLo x y ho g hx T m hy T' m' hr) h
end
end Go.Proofs.YtcaejlalnjnifaaGreat
namespace Go.Proofs.YtcaejlalnjnifaaGreat
open Gt (nb hf up jn)
def jD9 (k m:Nat) (T:Nat->BA):Nat->BA:=fun i=>if i<k then up m T i else Ap
theorem jE2 {fn:Func} {p:Tmp} (h:fn.results=#[.cell p 259]) (a0:Array Aj) (w:Ad) (g:Nat) (T:Nat->BA) (m:Nat) (hp:a0.getD p O=Af g) (hr:Row w g 259 (jU T m)):(results fn a0).run prog w=.ok (RwV T m) w:=
 Cs h a0 w g 259 (jU T m) (0,0) _ hp hr underlying259 rfl (by rw[Tryz.infoRw,vH])
theorem jGv (k m:Nat) (T:Nat->BA) (s:BA) (hs:s=up m T k):(fun j=>if j=k then s else jD9 k m T j)=jD9 (k+1) m T:=by
 funext j
 unfold jD9;by_cases e:j=k
 .subst e;simp[hs]
 .by_cases e2:j<k
  .simp[e,e2,show j<k+1 by omega]
  .simp[e,e2,show ¬ j<k+1 by omega]
theorem jLm (k m:Nat) (T:Nat->BA) (r s:BA) (hs:s=up m T k):(fun j=>if j=k then s else (if j=k then r else jD9 k m T j))=jD9 (k+1) m T:=by
 rw[<-jGv k m T s hs];funext j
 by_cases e:j=k <;> simp[e]
theorem jDn (T:Nat->BA) (m:Nat) (w:Ad) (hm:1<=m) (j1:m<=64) (hS:∀ i,i<m->(T i).size=16):CB 251 #[RwV T m] w (RwV (up m T) (hf m)):=by
 have hq:hf m<=32:=by unfold hf;omega
 have x0:hf m<=m:=by unfold hf;omega
 obtain⟨q,Hq⟩:=nnH (hf m);have KA:H (∀ W,CS 242 #[(m:Int)] W (q:Int)):=fun W=>by rw[<-Hq.out];exact QW m W (by omega)
 rw[Hq.out] at hq x0 |-;obtain⟨B,hB⟩:∃ B,w.1.size=B:=⟨_,rfl⟩;obtain⟨w1,k0⟩:=nmH (w.alloc (J (jU T m) 259));have K1:H (Row w1 B 259 (jU T m)/\Ab B w w1/\w1.1.size=B+1):=by rw[k0.out,<-hB];exact⟨Row.new w _ _,(Az _ _).alloc (Ay _) _,by simp⟩
 obtain⟨w2,m0⟩:=nmH (w1.alloc (J (jU noT 0) 259));have K2:H (Row w2 B 259 (jU T m)/\Row w2 (B+1) 259 (jU noT 0)/\Ab B w w2/\w2.1.size=B+2):=by
  rw[m0.out];have h1:=K1.2.2;refine⟨K1.1.alloc _,?_,K1.2.1.alloc (by omega) _,by simp;omega⟩;have:=Row.new w1 (jU noT 0) 259
  rw[h1] at this;exact this
 obtain⟨w3,n0⟩:=nmH (w2.alloc (J (jU noT q) 259));have u0:H ((w2.alloc (J (jU noT 0) 259)).setRow w2 (jU noT q)=w3):=by rw[n0.out];exact qI _ _ _ _
 have K3:H (Row w3 B 259 (jU T m)/\Row w3 (B+1) 259 (jU noT 0)/\Row w3 (B+2) 259 (jU noT q)/\Ab B w w3):=by
  rw[n0.out];have h1:=K2.2.2.2;refine⟨K2.1.alloc _,K2.2.1.alloc _,?_,K2.2.2.1.alloc (by omega) _⟩;have:=Row.new w2 (jU noT q) 259
  rw[h1] at this;exact this
 have x1:=K1.2.2;have y1:=K2.2.2.2;have v0:w2.cell? (Q B 64 I)=M (Ao Ar (m:Int)):=by rw[K2.out.1.cell 64,xG]
 have o1:w3.cell? (Q (B+2) 64 I)=M (Ao Ar (q:Int)):=by rw[K3.out.2.2.1.cell 64,xG]
 have KT:H (∀ i,i<m->(T i).size=16):=hS;go_enter func251,ntmps251
 go_wp2_with (first|(refine jSm rfl _ rfl T m rfl ?_;rw[<-k0.out])|(refine xT rfl rfl ?_;first|rw[<-m0.out]|skip)|(refine jKe rfl _ rfl q rfl ?_)|(refine vU rfl _ _ rfl w2 rfl noT q rfl noT 0 (Row.new w2 _ _) ?_;rw[u0.out])|(go_at_call 242;refine(KA _).mono ?_;rintro e w' ⟨rfl,hw⟩;obtain rfl:=hw.symm))
 go_loopw [14] (fun vi wr=>∃ k:Nat,k<=q/\vi=Ao Ar (k:Int)/\Row wr B 259 (jU T m)/\Row wr (B+1) 259 (jU noT 0)/\Row wr (B+2) 259 (jU (jD9 k m T) q)/\Ab B w wr) (fun vi _=>q-(intOf vi).toNat)
 case atStart=>
  refine⟨0,Bi _,rfl,K3.1,K3.2.1,?_,K3.2.2.2⟩;have:=K3.2.2.1
  rw[jA3 q (T':=jD9 0 m T) (fun i _=>by simp[noT,jD9])] at this;exact this
 case round=>
  obtain⟨k,hk,rfl,r0,r1,r2,d0⟩:=hrel;by_cases hlt:k<q
  .have i1:(k:Int)<(q:Int):=by omega
   have q1:2*k<m:=by have:=Hq.out;unfold hf at this;omega
   have v0:wr.cell? (Q B 64 I)=M (Ao Ar (m:Int)):=by rw[r0.cell 64,xG]
   obtain⟨p,hp⟩:∃ p,2*k=p:=⟨_,rfl⟩;have v1:IntKind.i64.wrap (2*(k:Int))=(p:Int):=by rw[A8];omega
   have n1:(p:Int)<64:=by omega
   have q0:p<m:=by omega
   have f0:k<64:=by omega
   have f1:(k:Int)<64:=by omega
   obtain⟨R,hR⟩:∃ R,wr.1.size=R:=⟨_,rfl⟩;have u1:B+2<R:=by have:=r2.lt;omega
   obtain⟨w4,o0⟩:=nmH (wr.alloc (J #[(p:Int),(m:Int)] 243));have K4:H (Row w4 B 259 (jU T m)/\Row w4 (B+1) 259 (jU noT 0)/\Row w4 (B+2) 259 (jU (jD9 k m T) q)/\Row w4 R 243 #[(p:Int),(m:Int)]/\Ab B w w4):=by
    rw[o0.out,<-hR];exact⟨r0.alloc _,r1.alloc _,r2.alloc _,Row.new wr _ _,d0.alloc (by omega) _⟩
   obtain⟨w5,p0⟩:=nmH ((wr.setCell (Q (B+2) k I) (T p)).alloc (J #[(p:Int),(m:Int)] 243));have K5:H (Row w5 B 259 (jU T m)/\Row w5 (B+1) 259 (jU noT 0)/\Row w5 (B+2) 259 (jU (fun j=>if j=k then T p else jD9 k m T j) q)/\Row w5 R 243 #[(p:Int),(m:Int)]/\Ab B w w5):=by
    rw[p0.out];refine⟨(r0.other _ _ (by omega)).alloc _,(r1.other _ _ (by omega)).alloc _,?_,?_,(d0.setCell (by simp) _).alloc (by simp;omega) _⟩
    .have:=r2.set k (T p)
     rw[jGg _ _ _ _ (by omega)] at this;exact this.alloc _
    .have:=Row.new (wr.setCell (Q (B+2) k I) (T p)) #[(p:Int),(m:Int)] 243
     rw[show (wr.setCell (Q (B+2) k I) (T p)).1.size=R by simp[hR]] at this;exact this
   have e0:=K4.2.2.2.1.cell 0;have e1:w4.cell? (Q B p I)=M (Ag (T p)):=by rw[K4.out.1.cell p,vO _ _ _ (by omega)]
   have e2:w4.cell? (Q (B+2) k I)=M (Ag (jD9 k m T k)):=by rw[K4.out.2.2.1.cell k,vO _ _ _ (by omega)]
   have g2:=K4.2.2.1.free k;have s0:=K5.2.2.2.1.cell 0;have s1:=K5.2.2.2.1.cell 1;simp at e0 s0 s1;generalize jD9 k m T k=old at e2;obtain⟨tp,h0⟩:∃ tp,T p=tp:=⟨_,rfl⟩;rw[h0] at e1;have i0:H ((wr.setCell (Q (B+2) k I) (Ag tp)).alloc (J #[(p:Int),(m:Int)] 243)=w5):=by show _=_;rw[p0.out,h0]
   rw[<-i0.out] at s0 s1;rw[o0.out] at e0 e1 e2 g2;have KN:H (∀ w0,CB 230 #[SpV (p:Int) (m:Int)] w0 (Ah #[Ao Ar ((p+1:Nat):Int),(decide (p+1<m))])):=by
    have y0:nb p=p+1:=by unfold nb;rw[A6 (by omega)]
    have:=fun w0=>vZ p m w0 (by omega)
    rw[y0] at this;exact this
   obtain⟨p1,b1⟩:∃ p1,p+1=p1:=⟨_,rfl⟩;rw[b1] at KN;go_wp2_with fail
   rw[i0.out];refine(KN _).mono ?_;rintro e w6 ⟨rfl,c0⟩;have K6:H (Row w6 B 259 (jU T m)/\Row w6 (B+1) 259 (jU noT 0)/\Row w6 (B+2) 259 (jU (fun j=>if j=k then T p else jD9 k m T j) q)/\Row w6 R 243 #[(p:Int),(m:Int)]/\Ab B w w6):=by
    obtain⟨a0,a1,a2,a3,a4⟩:=K5.out;exact⟨a0.below c0 a0.lt,a1.below c0 a1.lt,a2.below c0 a2.lt,a3.below c0 a3.lt,a4.trans (c0.mono (by have:=a0.lt;omega))⟩
   by_cases hok:p1<m
   .have hd:decide (p1<m)=Aw:=by simpa using hok
    have HU:H (jn tp (T p1)=up m T k):=by
     show _=_;unfold up;rw[A6 (by omega),show 2*k+1=p1 by omega,hp,h0]
    obtain⟨t1,t0⟩:∃ t1,T p1=t1:=⟨_,rfl⟩;have z0:=KT p q0;have z1:=KT p1 hok;rw[h0] at z0;rw[t0] at z1 HU;have HJ:H (∀ w0,CB 218 #[Ag tp,Ag t1] w0 (jn tp t1)):=fun w0=>jBq _ _ w0 (by omega) (by omega)
    have e0:=K6.2.2.2.1.cell 0;have e1:w6.cell? (Q B p I)=M (Ag tp):=by rw[K6.out.1.cell p,vO _ _ _ (by omega),h0]
    have e2:w6.cell? (Q B p1 I)=M (Ag t1):=by rw[K6.out.1.cell p1,vO _ _ _ (by omega),t0]
    have c1:(p1:Int)<64:=by omega
    simp at e0;have lB:=K6.1.lt;have k1:¬ R=B+2:=by omega
    have m1:¬ B+2=R:=by omega
    have lR:=K6.2.2.2.1.lt;generalize jn tp t1=z at HJ HU;go_wp2_with fail
    go_region_held3 (fun w'=>w'.cell? (Q R 0 I)=M (Ao Ar (p:Int))/\w'.cell? (Q B p I)=M (Ag tp)/\w'.cell? (Q B p1 I)=M (Ag t1)) (go_keep) ((go_at_call 218;refine Ax (HJ _) ?_;rintro e w9 ⟨rfl,j0⟩;have b0:=jC j0;clear j0;have g0:=(b0.cell (p:=Q R 0 I) lR).trans e0;have g1:=(b0.cell (p:=Q B p I) lB).trans e1;have g2:=(b0.cell (p:=Q B p1 I) lB).trans e2;have g3:=(K6.2.2.1.below b0 K6.2.2.1.lt).cell k;have g4:=(K6.2.2.1.below b0 K6.2.2.1.lt).free k;rw[vO _ _ _ f0] at g3))
    have HR:H (Row (w9.setCell (Q (B+2) k I) z) B 259 (jU T m)/\Row (w9.setCell (Q (B+2) k I) z) (B+1) 259 (jU noT 0)/\Row (w9.setCell (Q (B+2) k I) z) (B+2) 259 (jU (jD9 (k+1) m T) q)/\Ab B w (w9.setCell (Q (B+2) k I) z)):=by
     obtain⟨a0,a1,a2,a3,a4⟩:=K6.out;refine⟨(a0.below b0 a0.lt).other _ _ (by omega),(a1.below b0 a1.lt).other _ _ (by omega),?_,(a4.trans (b0.mono (Hc a0.lt))).setCell (by simp) _⟩;have:=(a2.below b0 a2.lt).set k z
     rw[jGg _ _ _ _ f0,jLm k m T _ _ HU.out] at this;exact this
    go_wp2
    go_roundw
    case rel=>exact⟨k+1,by omega,by go_num,HR.out.1,HR.out.2.1,HR.out.2.2.1,HR.2.2.2⟩
    case measure=>simp[intOf];omega
   .have hd:decide (p1<m)=Av:=by simpa using hok
    have HU:H (T p=up m T k):=by
     show _=_;unfold up;rw[A5 (by omega),A6 (by omega),hp]
    have HR:H (Row w6 (B+2) 259 (jU (jD9 (k+1) m T) q)):=by
     have:=K6.2.2.1
     rw[jGv k m T _ HU.out] at this;exact this
    go_wp2
    go_roundw
    case rel=>exact⟨k+1,by omega,by go_num,K6.out.1,K6.out.2.1,HR.out,K6.2.2.2.2⟩
    case measure=>simp[intOf];omega
  .obtain rfl:k=q:=by omega
   have HE:H (jU (jD9 k m T) k=jU (up m T) k):=by
    show _=_;refine jA3 k (fun i _=>?_);unfold jD9;by_cases e:i<k
    .rw[A6 e]
    .rw[A5 e,Gt.up_pad m T i (by have:=Hq.out;omega)]
   rw[HE.out] at r2;have HF:H (Row (wr.setRow (B+1) (jU (up m T) k)) (B+1) 259 (jU (up m T) k)/\Ab B w (wr.setRow (B+1) (jU (up m T) k))):=⟨r1.row,jG d0 (by omega) _⟩;go_wp2_with (first|(refine jGa rfl _ rfl (B+2) rfl (up m T) k r2 ?_)|(refine vU rfl _ _ rfl (B+1) rfl (up m T) k rfl noT 0 r1 ?_))
   refine B7 (jE2 results251 _ _ (B+1) (up m T) k rfl HF.1) rfl ⟨rfl,?_⟩;rw[hB];exact HF.2
end Go.Proofs.YtcaejlalnjnifaaGreat
namespace Go.Proofs.YtcaejlalnjnifaaGreat
def jAe (n:Nat) (S:Nat->BA):Nat->BA:=fun i=>if i<n then S i else Ap
theorem jKn (S:Nat->BA) (n:Nat) (hn:n<=64):((jU noT n).toList.take 0++sL S n++(jU noT n).toList.drop (0+(sL S n).length)).toArray=jU (jAe n S) n:=by
 apply Array.ext'
 apply Cn
 intro i;rw[E9,List.take_zero,Em,qW,Bq];have e:(jU (jAe n S) n).toList[i]?=(jU (jAe n S) n)[i]?:=Ge ..;have e0:∀ j,(jU noT n).toList[j]?=(jU noT n)[j]?:=fun j=>Ge ..
 rw[e];by_cases h1:i<n
 .rw[Ea (by rw[qW];exact h1),zA _ _ _ h1,vO _ _ _ (by omega)];simp[jAe,h1]
 .rw[Ds (by rw[qW];omega),qW,List.getElem?_drop,show n+(i-n)=i by omega,e0];by_cases h2:i<64
  .rw[vO _ _ _ h2,vO _ _ _ h2];simp[jAe,noT,h1]
  .by_cases h3:i=64
   .subst h3;rw[xG,xG]
   .rw[Array.getElem?_eq_none (by rw[vH];omega),Array.getElem?_eq_none (by rw[vH];omega)]
theorem qX {fn:Func} {p q:Tmp} (h:fn.results=#[.cell p 259,.tmp q]) (a0:Array Aj) (w:Ad) (g:Nat) (T:Nat->BA) (m:Nat) (v:Aj) (hp:a0.getD p O=Af g) (hq:a0.getD q O=v) (hr:Row w g 259 (jU T m)):(results fn a0).run prog w=.ok (Ah #[RwV T m,v]) w:=by
 have b0:a0[p]?.getD O=Af g:=by simpa using hp
 have c0:a0[q]?.getD O=v:=by simpa using hq
 simp[results,h,b0,c0,asAddr,run_loadVar_row w g 259 259 (jU T m) (0,0) _ hr Tryz.underlying259 rfl (by rw[Tryz.infoRw,vH])];rfl
theorem jAz (a:OA) (n cap:Nat) (S:Nat->BA) (w:Ad) (h:jK w a n S) (hn:n<=1048576) (hL:∀ i,i<n->(S i).size<=Au) (b0:lvB n S=Av):CB 240 #[V a n cap] w (Ah #[RwV noT 0,Av]):=by
 obtain⟨w1,a0⟩:=nmH (w.alloc (J (jU noT 0) 259));have K1:H (Row w1 w 259 (jU noT 0)/\Ab w w w1):=by rw[a0.out];exact⟨Row.new w _ _,(Az _ _).alloc (Ay _) _⟩
 have KA:=hd (zE a n cap S w1 (h.below K1.2) hn hL);have HF:H (Row (w1.setRow w (jU noT 0)) w 259 (jU noT 0)/\Ab w w (w1.setRow w (jU noT 0))):=⟨K1.1.row,jG K1.2 (Ay _) _⟩;by_cases h1:n<1
 .have c0:(n:Int)<1:=by omega
  go_enter func240,ntmps240
  go_wp2_with (first|(refine xT rfl rfl ?_;rw[<-a0.out])|(refine jBx rfl rfl ?_)|(refine vU rfl _ _ rfl w rfl noT 0 rfl noT 0 K1.1 ?_))
  refine B7 (qX results240 _ _ w noT 0 _ rfl rfl HF.1) rfl ⟨rfl,HF.2⟩
 .have c0:¬ (n:Int)<1:=by omega
  by_cases h2:64<n
  .have d0:(64:Int)<(n:Int):=by omega
   go_enter func240,ntmps240
   go_wp2_with (first|(refine xT rfl rfl ?_;rw[<-a0.out])|(refine jBx rfl rfl ?_)|(refine vU rfl _ _ rfl w rfl noT 0 rfl noT 0 K1.1 ?_))
   refine B7 (qX results240 _ _ w noT 0 _ rfl rfl HF.1) rfl ⟨rfl,HF.2⟩
  .have d0:¬ (64:Int)<(n:Int):=by omega
   have e0:aS n S=Av:=by
    unfold lvB at b0;rw[QK (by omega)] at b0;simpa using b0
   rw[e0] at KA;go_enter func240,ntmps240
   go_wp2_with (first|(refine xT rfl rfl ?_;rw[<-a0.out])|(refine jBx rfl rfl ?_)|(refine vU rfl _ _ rfl w rfl noT 0 rfl noT 0 K1.1 ?_)|(go_at_call 216;refine KA.mono ?_;rintro e w' ⟨rfl,hw⟩;obtain rfl:=hw.symm))
   refine B7 (qX results240 _ _ w noT 0 _ rfl rfl HF.1) rfl ⟨rfl,HF.2⟩
theorem JV (a:OA) (n cap:Nat) (S:Nat->BA) (w:Ad) (h:jK w a n S) (a0:lvB n S=Aw):CB 240 #[V a n cap] w (Ah #[RwV (jAe n S) n,Aw]):=by
 unfold lvB at a0;rw[Cr] at a0;have hn:1<=n/\n<=64:=by
  have:=a0.2
  unfold inB at this;simp at this;omega
 have hS:=jIi.1 a0.1;obtain⟨w1,b0⟩:=nmH (w.alloc (J (jU noT 0) 259));have K1:H (Row w1 w 259 (jU noT 0)/\Ab w w w1/\w1.1.size=w.1.size+1):=by rw[b0.out];exact⟨Row.new w _ _,(Az _ _).alloc (Ay _) _,by simp⟩
 have KA:H (CS 216 #[V a n cap] w1 Aw):=by
  have:=zE a n cap S w1 (h.below K1.2.1) (by omega) (fun i hi=>by rw[hS i hi];unfold Au;omega)
  rw[a0.1] at this;exact this
 obtain⟨w2,c0⟩:=nmH (w1.alloc (J (jU noT n) 259));have e0:H ((w1.alloc (J (jU noT 0) 259)).setRow w1 (jU noT n)=w2):=by rw[c0.out];exact qI _ _ _ _
 have K2:H (Row w2 w 259 (jU noT 0)/\Row w2 (w.1.size+1) 259 (jU noT n)/\Ab w w w2):=by
  rw[c0.out];refine⟨K1.1.alloc _,?_,K1.2.1.alloc (by have:=K1.2.2;omega) _⟩;have:=Row.new w1 (jU noT n) 259
  rw[K1.out.2.2] at this;exact this
 obtain⟨b,off,rfl,f0⟩:=(h.below K2.2.2).some (by omega);obtain⟨w3,d0⟩:=nmH (w2.setRow (w.1.size+1) (jU (jAe n S) n));have K3:H (Row w3 w 259 (jU noT 0)/\Row w3 (w.1.size+1) 259 (jU (jAe n S) n)/\Ab w w w3):=by
  rw[d0.out];exact⟨K2.1.otherRow (by omega),K2.out.2.1.row,jG K2.out.2.2 (by omega) _⟩
 have i0:(Builtin.copy_ #[27,27] 3 #[V (Q (w.1.size+1) 0 I) 64 64,V (Q b off I) n cap]).run prog w2=.ok (goInt n) w3:=by
  have:=run_copy_row (P:=prog) w2 27 27 3 9 (w.1.size+1) 0 64 64 (Q b off I) n cap (jU noT n) 259 (sL S n) C3 (by
    have:=Tryz.infoStr
    cases hi:Tryz.prog.info? 9 with
    | none=>rw[hi] at this;simp at this
    | some i=>rw[hi] at this;simp at this;simp[this.2.1]) K2.2.1 (by rw[qW];exact(Nat.min_eq_left hn.2).symm) (fun j v hv=>by
    have hj:j<n:=by
     have:=(Bz.1 hv).1
     rwa [qW] at this
    rw[zA _ _ _ hj] at hv;cases hv;have ea:((Q b off I):Al).add j=(Q b (off+j) I):=by unfold Addr.add;split <;> simp_all
    rw[ea];exact f0 j hj) (by rw[qW,vH];omega) (fun v hv=>by
    unfold sL at hv;simp at hv;obtain⟨i,_,rfl⟩:=hv;rfl)
  rw[jKn S n hn.2,qW,<-d0.out] at this;exact this
 have g0:¬ (n:Int)<1:=by omega
 have h0:¬ (64:Int)<(n:Int):=by omega
 have HF:H (Row (w3.setRow w (jU (jAe n S) n)) w 259 (jU (jAe n S) n)/\Ab w w (w3.setRow w (jU (jAe n S) n))):=⟨K3.1.row,jG K3.2.2 (Ay _) _⟩;have j0:=K1.2.2;go_enter func240,ntmps240
 go_wp2_with (first|(refine xT rfl rfl ?_;first|rw[<-b0.out]|skip)|(refine jKe rfl _ rfl n rfl ?_)|(refine vU rfl _ _ rfl w1 rfl noT n rfl noT 0 (Row.new w1 _ _) ?_;rw[e0.out])|(refine jGa rfl _ rfl (w.1.size+1) rfl (jAe n S) n K3.2.1 ?_)|(refine vU rfl _ _ rfl w rfl (jAe n S) n rfl noT 0 K3.1 ?_)|(go_at_call 216;refine KA.mono ?_;rintro e w' ⟨rfl,hw⟩;obtain rfl:=hw.symm))
 refine B7 (qX results240 _ _ w (jAe n S) n _ rfl rfl HF.1) rfl ⟨rfl,HF.2⟩
end Go.Proofs.YtcaejlalnjnifaaGreat
namespace Go.Proofs.YtcaejlalnjnifaaGreat
open Go.ChangeShapes Go.WideShapes Go.ChangeAt Go.RowKit Go.Shelf
open Gt (hf up)
abbrev RSt:=Bool×Nat×(Nat->BA)
abbrev jSn (s:RSt):Array Aj:=#[RwV s.2.2 s.2.1]
abbrev rOk (s:RSt):Prop:=s.1=Av/\1<=s.2.1/\s.2.1<=64/\∀ i,i<s.2.1->(s.2.2 i).size=16
def rNx (s:RSt):RSt:=if s.2.1<=1 then (Aw,s.2.1,s.2.2) else (Av,hf s.2.1,up s.2.1 s.2.2)
abbrev rFin (s:RSt):Prop:=s.1=Aw
theorem jDp (T0:Nat->BA) (n:Nat) (n0:1<=n) (hn:n<=64) (hS:∀ i,i<n->(T0 i).size=16):jOy prog 241 (RwV T0 n) jSn rOk rNx rFin (Av,n,T0):=by
 intro nn m l J W hJ hY hm h0;subst hm;have KY:H (∀ s W1,rOk s->J s W1->W.1.size<W1.1.size->YieldAt Fence.wide m prog l (jSn s) W1 fun e W'=>e=Ae Aw/\J (rNx s) W'/\W.1.size<W'.1.size/\W'.1[W.1.size]?=W1.1[W.1.size]?):=hY;clear hY;have KJ:H (∀ s A B,J s A->A.grownBy B (M W.1.size)->J s B):=hJ;clear hJ;have s0:=jEa;have r0:=JB;have KS:H (∀ i,i<n->(T0 i).size=16):=hS;clear hS;obtain⟨b,hb⟩:∃ b,W.1.size=b:=⟨_,rfl⟩;have KW:=hd hb;refine callsIn_of_wp func241 rfl trivial ?_ rfl;simp only[ntmps241,E4,Fu,Gc,Nat.reduceAdd,Nat.reduceSub,Es,Et,Fm,E8,Em,Fc];gi_wp2_with (refine jSg rfl _ rfl T0 n rfl ?_)
 go_simp
 gi_loopg [] n (fun gk wr=>∃ (k:Nat) (T:Nat->BA),k=gk/\1<=k/\k<=64/\H (∀ i,i<k->(T i).size=16)/\Row wr b 259 (jU T k)/\H (J (Av,k,T) wr))
 case atStart=>
  refine⟨n,T0,rfl,n0,hn,KS,?_,KJ _ _ _ h0 (Fa _ _ _)⟩;rw[<-hb];exact Row.new W _ _
 case round=>
  obtain⟨k,T,rfl,i0,d0,HS,hr,HJ⟩:=hrel;clear h0 KS;have o0:b<wr.1.size:=hr.lt;obtain⟨fn,q0,j0,p0,hy,hR⟩:=KY (Av,k,T) wr ⟨rfl,i0,d0,HS⟩ HJ (by rw[KW.out];exact o0);have HR:=hd hR;clear hR;simp only[jSn] at hy;have t0:m+1-1=m:=rfl;by_cases h1:k<=1
  .have m0:¬ (1:Int)<(k:Int):=by omega
   gi_wp2_with (refine jJe rfl _ rfl b rfl T k hr ?_)
   refine HR.mono ?_;rintro e w2 ⟨rfl,a0,e0,c0⟩;have R2:Row w2 b 259 (jU T k):=by
    unfold Row;rw[<-KW.out,c0,KW.out];exact hr
   have k0:w2.cell? (Q b 64 I)=M (Ao Ar (k:Int)):=by rw[R2.cell 64,xG]
   have b0:H (J (Aw,k,T) w2):=by unfold rNx at a0;rw[A6 h1] at a0;exact a0
   clear a0 e0 c0 hr;gi_wp2
   go_end0
   first|exact⟨⟨_,rfl⟩,(Aw,k,T),rfl,b0⟩|exact⟨⟨_,rfl⟩,Aw,⟨k,T,b0⟩,rfl⟩|exact⟨⟨_,rfl⟩,Aw,k,T,rfl,b0⟩|exact⟨⟨_,rfl⟩,Aw,rfl,k,T,b0⟩|exact⟨⟨_,rfl⟩,Aw,⟨k,T,rfl,b0⟩⟩
  .have m0:(1:Int)<(k:Int):=by omega
   gi_wp2_with (refine jJe rfl _ rfl b rfl T k hr ?_)
   refine HR.mono ?_;rintro e w2 ⟨rfl,a0,e0,c0⟩;have R2:Row w2 b 259 (jU T k):=by
    unfold Row;rw[<-KW.out,c0,KW.out];exact hr
   have k0:w2.cell? (Q b 64 I)=M (Ao Ar (k:Int)):=by rw[R2.cell 64,xG]
   have b0:H (J (Av,hf k,up k T) w2):=by unfold rNx at a0;rw[A5 h1] at a0;exact a0
   have KA:=hd (jDn T k w2 i0 d0 HS);have HU:H (∀ i,i<hf k->(up k T i).size=16):=Gt.up_size HS;have hlt:1<=hf k/\hf k<k:=by unfold hf;omega
   clear a0 e0 c0 hr;generalize hf k=k' at *;generalize up k T=T' at *;gi_wp2_with (refine jJe rfl _ rfl b rfl T k R2 ?_)
   refine(Du.2 KA).mono ?_;rintro e w3 ⟨rfl,f0⟩;have R3:=R2.below f0 R2.lt;have HJ3:H (J (Av,k',T') (w3.setRow b (jU T' k'))):=by
    have hg:=xE (M b) f0;have g0:w3.grownBy (w3.setRow b (jU T' k')) (M b):=⟨rfl,rfl,rfl,by simp,fun j _ hj=>Cj _ _ _ _ (fun e=>hj (by rw[e]))⟩;rw[<-KW.out] at hg g0 |-;exact KJ _ _ _ (KJ _ _ _ b0 hg) g0
   have R4:=R3.row (ds:=jU T' k');gi_wp2_with (refine jEm rfl _ _ rfl b rfl T' k' rfl T k R3 ?_)
   gi_roundg k'
   case measure=>exact hlt.2
   case rel=>exact⟨k',T',rfl,hlt.1,by omega,HU,R4,HJ3⟩
end Go.Proofs.YtcaejlalnjnifaaGreat
namespace Go.Proofs.YtcaejlalnjnifaaGreat
open Go.ChangeShapes Go.WideShapes Go.ChangeAt Go.RowKit Go.Shelf
open Gt (hf up rt)
def rtS (n:Nat) (S:Nat->BA):BA:=if lvB n S=Aw then rt n S else ⟨#[]⟩
theorem vE {n:Nat} {S:Nat->BA} (h:lvB n S=Aw):1<=n/\n<=64/\∀ i,i<n->(S i).size=16:=by
 unfold lvB at h;rw[Cr] at h;have h2:=h.2;unfold inB at h2;simp at h2;exact⟨by omega,by omega,jIi.1 h.1⟩
theorem jBy {n i:Nat} (S:Nat->BA) (h:i<n):jAe n S i=S i:=A6 h
theorem jP1 (a:OA) (n cap:Nat) (S:Nat->BA) (w:Ad) (h:jK w a n S) (hn:n<=1048576) (hL:∀ i,i<n->(S i).size<=Au) (b0:lvB n S=Av):CB 225 #[V a n cap] w (Ah #[Zs,Av]):=by
 have KL:H (CB 240 #[V a n cap] w (Ah #[RwV noT 0,Av])):=jAz a n cap S w h hn hL b0;clear h hL b0;go_enter func225,ntmps225
 go_wp2_with fail
 refine KL.mono ?_;rintro e w1 ⟨rfl,a0⟩;have HB:H (Ab w w (w1.alloc (J (jU noT 0) 259))):=a0.alloc a0.size _;have HF:H ((w1.alloc (J (jU noT 0) 259)).setRow w1 (jU noT 0)=w1.alloc (J (jU noT 0) 259)):=qI _ _ _ _;go_wp2_with (first|(refine xT rfl rfl ?_)|(refine vU rfl _ _ rfl w1 rfl noT 0 rfl noT 0 (Row.new w1 _ _) ?_;rw[HF.out]))
 go_ret2
 exact⟨rfl,HB⟩
theorem jMu (a:OA) (n cap:Nat) (S:Nat->BA) (w:Ad) (h:jK w a n S) (a0:lvB n S=Aw):CB 225 #[V a n cap] w (Ah #[(rt n S),Aw]):=by
 have KL:H (CB 240 #[V a n cap] w (Ah #[RwV (jAe n S) n,Aw])):=JV a n cap S w h a0;obtain⟨h1,r0,d0⟩:=vE a0;obtain⟨R,HR⟩:=nnH (rt n S);have HT:H (rt n (jAe n S)=R):=by show _=_;rw[<-HR.out];exact Gt.rt_congr (by omega) (fun i hi=>jBy S hi)
 have o0:H (∀ i,i<n->(jAe n S i).size=16):=fun i hi=>by rw[jBy S hi];exact d0 i hi
 have q0:H (R.size=16):=by show _=_;rw[<-HR.out];exact Gt.rt_size (by omega) d0
 rw[HR.out];clear h a0 d0 HR;generalize jAe n S=T at *;refine(Du (n:=2)).1 (callsIn_of_wp_marks func225 rfl trivial (wpIn_wide.2 ?_) rfl);simp only[ntmps225,E4,Fu,Gc,Nat.reduceAdd,Nat.reduceSub,Es,Et,Fm,E8,Em,Fc];go_wp2_with fail
 refine KL.mono ?_;rintro e w1 ⟨rfl,b0⟩;obtain⟨w2,j0⟩:=nmH (w1.alloc (J (jU T n) 259));have HF:H ((w1.alloc (J (jU noT 0) 259)).setRow w1 (jU T n)=w2):=by rw[j0.out];exact qI _ _ _ _
 obtain⟨B,hB⟩:∃ B,w1.1.size=B:=⟨_,rfl⟩;have K2:H (Row w2 B 259 (jU T n)/\Ab w w w2/\w2.1.size=B+1/\w.1.size<=B):=by
  rw[j0.out,<-hB];exact⟨Row.new w1 _ _,b0.alloc b0.size _,by simp,b0.size⟩
 have K3:H (Row (w2.alloc (J #[Zs] 9)) B 259 (jU T n)):=K2.1.alloc _;have x0:=K2.2.2.1;go_wp2_with (first|(refine xT rfl rfl ?_)|(refine vU rfl _ _ rfl w1 rfl T n rfl noT 0 (Row.new w1 _ _) ?_;rw[HF.out])|(refine jGa rfl _ rfl B rfl T n K3.out ?_))
 obtain⟨w8,k0⟩:=nmH (w2.alloc (J #[Zs] 9));have HN:H (Row w8 (B+1) 9 #[Zs]/\Ab w w w8/\w8.1.size=B+2/\w.1.size<=B):=by
  rw[k0.out];obtain⟨a1,a2,a3,a4⟩:=K2.out;refine⟨?_,a2.alloc (by omega) _,by simp;omega,a4⟩;have:=Row.new w2 #[Zs] 9
  rw[a3] at this;exact this
 rw[<-k0.out];clear hB x0 b0;refine(wpIn_wide (n:=2)).1 ?_;refine zN (recv:=RwV T n) (gf:=241) rfl (enters_of func241 (by kernel_rfl) rfl) (jDp T n h1 r0 o0) (fun _=>rfl)
  (fun s W=>Ab w w W/\∃ r:BA,Row W (B+1) 9 #[r]/\(s.1=Av->rt s.2.1 s.2.2=R)/\(s.1=Aw->r=R)) ?abide ?start ?round ?done
 case abide=>
  rintro s A A' j h1 h2 ⟨hb,r,hr,hp,hq⟩ hg;have hn:=HN.2.2;exact⟨qE hb hg hb.size (by omega),r,hr.grown hg (by omega),hp,hq⟩
 case start=>exact⟨HN.2.1,_,HN.1,fun _=>HT.out,fun e=>by cases e⟩
 case round=>
  rintro l ⟨d,m,T'⟩ W f0 ⟨hb,r,hr,hp,hq⟩ z0;have hn:=HN.2.2;have hd:d=Av:=f0.1;have n0:=hp hd;have HX:H (R=rt m T'):=n0.symm;have HO:H (rOk (d,m,T')):=f0;clear hp hq n0 f0;have y0:=Oper.semAt_some;have p0:H ((W.alloc (J (jU noT 0) 259)).setRow W.1.size (jU T' m)=W.alloc (J (jU T' m) 259)):=qI _ _ _ _;go_simp
  gi_wp2_with (first|(refine jJd rfl rfl ?_)|(refine jEm rfl _ _ rfl W.1.size rfl T' m rfl noT 0 (Row.new W _ _) ?_;rw[p0.out]))
  refine⟨Fa _ _ _,?_⟩;intro W2 c0 v0;have r1:=(hr.alloc (J (jU T' m) 259)).grown c0 (by omega);have rX:=(Row.new W (jU T' m) 259).grown c0 (by omega);have u0:=qE (hb.alloc hb.size (J (jU T' m) 259)) c0 (by simp;have:=hb.size;omega) (by omega);have c1:=r1.cell 0;have f1:=r1.free 0;have cX:W2.cell? (Q W.1.size 0 I)=M (Ag (T' 0)):=by rw[rX.cell 0,vO _ _ _ (by omega)]
  simp at c1;have i0:H (Row (W2.setCell (Q (B+1) 0 I) (T' 0)) (B+1) 9 #[(T' 0)]):=r1.set 0 (T' 0);have g0:H (Ab w w (W2.setCell (Q (B+1) 0 I) (T' 0))):=u0.setCell (by simp;omega) _;have HE:H (((rNx (d,m,T')).1=Av->rt (rNx (d,m,T')).2.1 (rNx (d,m,T')).2.2=R)/\((rNx (d,m,T')).1=Aw->T' 0=R)):=by
   show _/\_;unfold rNx;by_cases e:m<=1
   .rw[A6 e];refine⟨fun x=>(by cases x),fun _=>?_⟩;rw[HX.out,Gt.rt_one _ e]
   .rw[A5 e];refine⟨fun _=>?_,fun x=>(by cases x)⟩;rw[HX.out,Gt.rt_more _ e]
  generalize T' 0=t0 at cX i0 g0 HE;clear hd HX HO c0 v0 hr;gi_wp2
  exact⟨by simp,fun j h1 h2=>Df _ _ _ _ (by simp;omega),g0.out,t0,i0.out,HE.out⟩
 case done=>
  rintro s W hf ⟨hb,r,hr,hp,hq⟩ hK;obtain rfl:r=R:=hq hf;have e0:=hr.cell 0;simp at e0;have KC:H (∀ w0,CB 120 #[r] w0 r):=fun w0=>qN r w0 (by have:=q0.out;omega)
  go_wp2_with fail
  refine(KC _).mono ?_;rintro e w9 ⟨rfl,m0⟩;have s0:w9.1[w8.1.size]?=M (.deferred (M [])):=(m0.block _ (By.1 hK).1).trans hK;have h0:H (Ab w w w9):=hb.trans (m0.mono hb.size);go_wp2
  refine⟨by simp,.inl ⟨_,_,rfl,run_takeDeferred s0,?_⟩⟩;exact⟨_,results_tmp2 rfl _ _ _,rfl,qE h0 (qQ _ _ _) h0.size (by have:=HN.2.2;omega)⟩
theorem jMt (a:OA) (n cap:Nat) (S:Nat->BA) (w:Ad) (h:jK w a n S) (hn:n<=1048576) (hL:∀ i,i<n->(S i).size<=Au):CB 225 #[V a n cap] w (Ah #[(rtS n S),(lvB n S)]):=by
 unfold rtS;cases hB:lvB n S with
 | false=>exact jP1 a n cap S w h hn hL hB
 | true=>exact jMu a n cap S w h hB
end Go.Proofs.YtcaejlalnjnifaaGreat
namespace Go.Proofs.YtcaejlalnjnifaaGreat
open Go.ChangeShapes Go.WideShapes Go.ChangeAt Go.RowKit Go.Shelf
open Gt (hf up nb pl)
def pfB (n:Nat) (S:Nat->BA) (i:Int):Bool:=lvB n S&&inT i (n:Int)
def pfR (n:Nat) (S:Nat->BA) (i:Int):Nat:=if pfB n S i=Aw then pl i.toNat n else 0
def pfF (n:Nat) (S:Nat->BA) (i:Int):Nat->BA:=Gt.pf n S i.toNat
structure Kp (X:Nat->Prop) (W W':Ad):Prop where
 os:W'.os=W.os
 tape:W'.tape=W.tape
 output:W'.output=W.output
 size:W.1.size<=W'.1.size
 block:∀ j,j<W.1.size->¬ X j->W'.1[j]?=W.1[j]?
theorem Kp.trans {X:Nat->Prop} {A B C:Ad} (h:Kp X A B) (k:Kp X B C):Kp X A C:=
 ⟨k.os.trans h.os,k.tape.trans h.tape,k.output.trans h.output,Bx h.size k.size,fun j hj hx=>(k.block j (Br hj h.size) hx).trans (h.block j hj hx)⟩
theorem Kp.below {X:Nat->Prop} {A B:Ad} (h:Ab A A B):Kp X A B:=⟨h.os,h.tape,h.output,h.size,fun j hj _=>h.block j hj⟩
theorem Kp.grown {X:Nat->Prop} {A B:Ad} {g:Nat} (h:A.grownBy B (M g)) (hx:X g):Kp X A B:=⟨h.os,h.tape,h.output,h.size,fun j hj hn=>h.block j hj (fun e=>by cases e;exact hn hx)⟩
theorem Kp.set {X:Nat->Prop} (A:Ad) (g i:Nat) (v:Aj) (hx:X g):Kp X A (A.setCell (Q g i I) v):=Kp.grown (jN A g i v) hx
theorem Kp.base {X:Nat->Prop} {N:Nat} {w A B:Ad} (h:Kp X A B) (hb:Ab N w A) (hN:N<=A) (hx:∀ j,j<N->¬ X j):Ab N w B:=
 hb.trans ⟨h.os,h.tape,h.output,h.size,fun j hj=>h.block j (by omega) (hx j hj)⟩
theorem jO1 {W9:Ad} {Bm Bs Bl G c cp:Nat} {vs vl:Array Aj} {O:Nat->BA} (z:BA) (ho:jI W9 Bm G c cp O) (rs:Row W9 Bs 243 vs) (rl:Row W9 Bl 27 vl) (hs:G≠Bs) (hl:G≠Bl) (hc:c<=64):∃ g3 c3 w3,(Builtin.append_ #[27,27] 27 #[V G c cp,V (Q W9 0 I) 1 1]).run prog (W9.alloc (J #[z] 9))=.ok (V (Q g3 0 I) (c+1) c3) w3/\H (jI w3 Bm (Q g3 0 I) (c+1) c3 (fun j=>if j=c then z else O j)/\Row w3 Bs 243 vs/\Row w3 Bl 27 vl/\(g3=G\/W9.1.size<g3)/\Kp (fun j=>j=G\/j=Bs\/j=Bl) W9 w3):=by
 obtain⟨i0,hi,f0,g0,h0⟩:=Ch Tryz.infoStr;have hb:=(A0 ho _ rfl);obtain⟨g3,c3,w3,e0,c0,a0,d0,j0⟩:=run_append_lies (P:=prog) (W9.alloc (J #[z] 9)) 27 27 Bm 9 i0 Ap 1 16 C3 hi f0 g0 h0 rfl (by decide) (V G c cp) c _ (Cb ho _) ⟨W9.1.size,0,I⟩ 1 1 [z] rfl (Cf (cs:=#[Ag z]) (t:=9) (fr:=(0,0)) (Co W9 _)) (by simp[Aq]) (by omega) (by unfold Au;omega) (by omega) (by simp;omega) (W9.1.size+1) (by simp);have b0:=a0;refine⟨g3,c3,w3,e0,?_,(rs.alloc _).grown b0 (Ci hs),(rl.alloc _).grown b0 (Ci hl),?_,?_⟩
 .have hx:sL (fun j=>if j=c then z else O j) (c+1)=sL O c++[Ag z]:=by
   rw[JY,xQ (S':=O) (fun i hi=>by rw[A5 (by omega)])];simp
  unfold jI;rw[hx];exact c0
 .rcases d0 with h|h
  .left;have h':M G=M g3:=h;cases h';rfl
  .right;omega
 .exact(Kp.below ((Az _ W9).alloc (Ay _) _)).trans (Kp.grown b0 (.inl rfl))
theorem jMr (a:OA) (n cap:Nat) (S:Nat->BA) (i:Int) (w:Ad) (h:jK w a n S) (hn:n<=1048576) (hL:∀ i,i<n->(S i).size<=Au) (b0:pfB n S i=Av):Ak prog 226 #[V a n cap,Ao Ar i] w fun e w'=>∃ v,e=Ae (Ah #[v,Av])/\jCk w w' v 0 (pfF n S i)/\Ab w w w':=by
 have KL:H (∃ (T:Nat->BA) (m:Nat),CB 240 #[V a n cap] w (Ah #[RwV T m,(lvB n S)])):=by
  cases hB:lvB n S with
  | false=>exact⟨_,_,jAz a n cap S w h hn hL hB⟩
  | true=>exact⟨_,_,JV a n cap S w h hB⟩
 obtain⟨T,m,c0⟩:=KL.out;have KC:H (CB 240 #[V a n cap] w (Ah #[RwV T m,(lvB n S)])):=c0;clear KL c0 h hL;obtain⟨F,HF⟩:=nnH (pfF n S i);rw[HF.out];unfold pfB at b0;have KT:H (∀ w0,CB 228 #[SpV i (n:Int)] w0 (inT i (n:Int))):=fun w0=>xN i (n:Int) w0
 cases hB:lvB n S with
 | false=>
  rw[hB] at KC;go_enter func226,ntmps226
  go_wp2_with fail
  refine KC.mono ?_;rintro e w1 ⟨rfl,a0⟩;have HS:H ((w1.alloc (J (jU noT 0) 259)).setRow w1 (jU T m)=w1.alloc (J (jU T m) 259)):=qI _ _ _ _;go_wp2_with (first|(refine xT rfl rfl ?_)|(refine vU rfl _ _ rfl w1 rfl T m rfl noT 0 (Row.new w1 _ _) ?_;rw[HS.out]))
  go_ret2
  have HL:=jIc ((w1.alloc (J (jU T m) 259)).alloc (J #[Ao Ar i,(n:Int)] 243)) F;simp only[World.size_alloc] at HL;exact⟨_,rfl,⟨_,_,rfl,HL.base (by have:=a0.size;omega)⟩,((a0.alloc a0.size _).alloc (by simp;have:=a0.size;omega) _).alloc (by simp;have:=a0.size;omega) _⟩
 | true=>
  rw[hB] at KC b0;have e0:inT i (n:Int)=Av:=by simpa using b0
  rw[e0] at KT;go_enter func226,ntmps226
  go_wp2_with fail
  refine KC.mono ?_;rintro e w1 ⟨rfl,a0⟩;have HS:H ((w1.alloc (J (jU noT 0) 259)).setRow w1 (jU T m)=w1.alloc (J (jU T m) 259)):=qI _ _ _ _;go_wp2_with (first|(refine xT rfl rfl ?_)|(refine vU rfl _ _ rfl w1 rfl T m rfl noT 0 (Row.new w1 _ _) ?_;rw[HS.out])|(go_at_call 228;refine(KT _).mono ?_;rintro e w5 ⟨rfl,d0⟩))
  go_ret2
  have hb:=jA ((a0.alloc a0.size (J (jU T m) 259)).alloc (by simp;have:=a0.size;omega) _) d0;exact⟨_,rfl,⟨_,_,rfl,(jIc _ F).base (by have:=hb.size;omega)⟩,hb.alloc hb.size _⟩
end Go.Proofs.YtcaejlalnjnifaaGreat
namespace Go.Proofs.YtcaejlalnjnifaaGreat
open Gt (hf up rt)
theorem jKu {w:Ad} {b off n:Nat} {S:Nat->BA} (hc:∀ i,i<n->w.cell? (Q b (off+i) I)=M (Ag (S i))):∀ j u,(sL S n)[j]?=M u->w.cell? (((Q b off I):Al).add j)=M u:=by
 intro j u hu;have hj:j<n:=by
  have:=(Bz.1 hu).1
  rwa [qW] at this
 rw[zA _ _ _ hj] at hu;cases hu;have ea:((Q b off I):Al).add j=(Q b (off+j) I):=by unfold Addr.add;split <;> simp_all
 rw[ea];exact hc j hj
theorem jOh (S:Nat->BA) (n:Nat):∀ u∈sL S n,u.oneCell'=Aw:=by
 intro u hu;unfold sL at hu;simp at hu;obtain⟨i,_,rfl⟩:=hu;rfl
theorem jKy (a:OA) (n cap:Nat) (S:Nat->BA) (w:Ad) (h:jK w a n S) (hn:n<=1048576) (hL:∀ i,i<n->(S i).size<=Au):CB 164 #[V a n cap] w (Ah #[(rtS n S),(lvB n S)]):=by
 have KV:H (CS 189 #[V a n cap] w (lvB n S)):=JZ a n cap S w h hn hL;unfold rtS;cases hB:lvB n S with
 | false=>
  rw[hB] at KV;clear h hL hB;go_enter func164,ntmps164
  go_wp2_with (go_at_call 189;refine KV.mono ?_;rintro e w' ⟨rfl,hw⟩;obtain rfl:=hw.symm)
  go_ret2
  exact⟨rfl,Az _ _⟩
 | true=>
  rw[hB] at KV;obtain⟨h1,h64,e0⟩:=vE hB;obtain⟨i0,hi,n0,o0,p0⟩:=Ch Tryz.infoStr;obtain⟨b,off,rfl,d0⟩:=h.some (by omega);have q0:b<w:=A7 (d0 0 (by omega));have HN:H (∀ j u,(sL S n)[j]?=M u->(w.alloc (J #[] 9)).cell? (((Q b off I):Al).add j)=M u):=jKu (fun i hi=>by
   have hb:Ab w w (w.alloc (J #[] 9)):=(Az _ _).alloc (Ay _) _;exact(hb.cell (p:=Q b (off+i) I) q0).trans (d0 i hi))
  have KL:H (jI (w.alloc (J #[] 9)) w (Q w 0 I) 0 0 S):=jIc w _;have H1:H (∀ u∈sL S n,u.oneCell'=Aw):=jOh S n;have H16:H (∀ i,i<n->(S i).size=16):=e0;obtain⟨Z,HZ⟩:=nnH (rt n S);rw[A6 rfl,HZ.out];clear h hL hB d0 e0;go_enter func164,ntmps164
  go_wp2_with (first|(go_at_call 189;refine KV.out.mono ?_;rintro e w' ⟨rfl,hw⟩;obtain rfl:=hw.symm)|(at_builtin;refine qC _ rfl _ _ 27 rfl w 9 i0 Ap 1 16 C3 hi n0 o0 p0 rfl (by decide) w 0 0 _ rfl KL.out ⟨b,off,I⟩ n cap (sL S n) rfl (by rw[qW];omega) HN.out H1.out (by unfold Au;omega) (by omega) (by simp) ?_;intro g3 cap3 w3 hown3 hgrow3))
  have HO:H (jI w3 w g3 n cap3 S):=by
   have hx:sL S 0++sL S n=sL S n:=rfl;rw[hx,Bq] at hown3;exact hown3
  have HB:H (Ab w w w3):=((Az _ w).alloc (Ay _) _).grown (show World.grownBy _ w3 (M w.1.size) from hgrow3) (by simp) (fun j hj=>by cases hj;exact Ay _);clear hown3 hgrow3 KL HN H1 KV;go_loopg [4] n (fun gk v wr=>∃ (m G c:Nat) (R:Nat->BA),m=gk/\1<=m/\m<=64/\v=V G m c/\jI wr w G m c R/\H (∀ i,i<m->(R i).size=16)/\H (rt m R=Z)/\Ab w w wr)
  case atStart=>exact⟨n,g3,cap3,S,rfl,h1,h64,rfl,HO,H16,HZ,HB⟩
  case round=>
   obtain⟨m,G,c,R,rfl,u0,h0,rfl,b0,HS,HR,a0⟩:=hrel;clear HO HB H16 HZ;by_cases e1:m<=1
   .have k0:¬ (1:Int)<(m:Int):=by omega
    have m0:=(jI.at b0).some (by omega);obtain⟨b',s0,eq,g0⟩:=m0;cases eq;have c0:=g0 0 (by omega);have HE:H (R 0=Z):=by have:=HR.out;rw[Gt.rt_one _ e1] at this;exact this
    have t0:0<m:=by omega
    simp only[Cp] at c0;clear b0 g0;generalize R 0=r0 at c0 HE;go_wp2
    go_ret2
    exact⟨by rw[<-HE.out];rfl,a0⟩
   .have k0:(1:Int)<(m:Int):=by omega
    have KU:H (Ak prog 190 #[V G m c] wr fun e w'=>∃ g c,e=Ae (V (Q g 0 I) (hf m) c)/\jI w' wr.1.size (Q g 0 I) (hf m) c (up m R)/\Ab wr.1.size wr w'):=jK0 _ m c R wr (jI.at b0) h0 HS;have HS2:H (∀ i,i<hf m->(up m R i).size=16):=Gt.up_size HS;have HR2:H (rt (hf m) (up m R)=Z):=by have:=HR.out;rw[Gt.rt_more _ e1] at this;exact this
    have hlt:1<=hf m/\hf m<m:=by unfold hf;omega
    generalize hf m=m' at *;generalize up m R=R' at *;clear b0;go_wp2_with fail
    refine KU.mono ?_;rintro e w9 ⟨g9,c9,rfl,j0,f0⟩;have HO9:H (jI w9 w g9 m' c9 R'):=j0.base a0.size;have HB9:H (Ab w w w9):=a0.trans (f0.mono a0.size);clear j0 f0;go_wp2
    go_roundg m'
    case measure=>exact hlt.2
    case rel=>exact⟨m',g9,c9,R',rfl,hlt.1,by omega,rfl,HO9.out,HS2,HR2,HB9.out⟩
end Go.Proofs.YtcaejlalnjnifaaGreat
