import Derived.Test.YthhbpebihgjpjaaGreatDoorZ01
import Derived.Lib.FieldsP
import Derived.Lib.MapLaws
namespace Go.Proofs.YthhbpebihgjpjaaGreatDoor
set_option maxHeartbeats 20000000
set_option linter.all false
section
open Go.Lib
def kJ(s:ah):Nat->Nat->Nat->List (Nat×Nat)->List (Nat×Nat)
 |0,_,_,acc=>acc
 |g+1,i,fr,acc=>if i<s.size/\s.get! i≠32 then kJ s g (i+1) fr acc else kJ s g (i+1) (i+1) (if fr<i then acc++[(fr,i)] else acc)
def zX(s:ah):List (Nat×Nat):=kJ s (s.size+1) 0 0 []
def xh(r:Nat):Bool:=r==32
theorem Qc(s:ah)(pos:Nat)(h:pos<s.size):(s.get! pos=32->Utf8.decode s pos=(32,1))/\
  (s.get! pos≠32->(Utf8.decode s pos).1≠32/\1<=(Utf8.decode s pos).2/\∀j,j<(Utf8.decode s pos).2->pos+j<s.size/\s.get! (pos+j)≠32):=by
 have h32:∀b:UInt8,b.toNat≠32->b≠32:=fun b hb e=>hb (by rw[e];rfl)
 rw[decode_at]
 constructor
 ·intro e;rw[e];rfl
 intro e
 have e':(s.get! pos).toNat≠32:=fun hb=>e (qc.1 hb)
 rcases decodeN_shape (s.size-pos) (s.get! pos).toNat (s.get! (pos+1)).toNat (s.get! (pos+2)).toNat (s.get! (pos+3)).toNat with ⟨_,hd⟩|⟨_,hn,h1,hr,hd⟩|⟨_,hn,h1,h2,hr,_,hd⟩|⟨_,hn,h1,h2,h3,hr,_,hd⟩|hd
 all_goals rw[hd]
 ·exact⟨e',ai _,fun j hj=>by
   obtain rfl:j=0:=by simp only at hj;omega
   exact⟨h,e⟩⟩
 ·refine⟨by simp only;omega,by simp,fun j hj=>?_⟩;simp only at hj
  match j,hj with
  |0,_=>exact⟨h,e⟩
  |1,_=>exact⟨by omega,h32 _ (by omega)⟩
 ·refine⟨by simp only;omega,by simp,fun j hj=>?_⟩;simp only at hj
  match j,hj with
  |0,_=>exact⟨h,e⟩
  |1,_=>exact⟨by omega,h32 _ (by omega)⟩
  |2,_=>exact⟨by omega,h32 _ (by omega)⟩
 ·refine⟨by simp only;omega,by simp,fun j hj=>?_⟩;simp only at hj
  match j,hj with
  |0,_=>exact⟨h,e⟩
  |1,_=>exact⟨by omega,h32 _ (by omega)⟩
  |2,_=>exact⟨by omega,h32 _ (by omega)⟩
  |3,_=>exact⟨by omega,h32 _ (by omega)⟩
 exact⟨by simp,ai _,fun j hj=>by
  obtain rfl:j=0:=by simp only at hj;omega
  exact⟨h,e⟩⟩
theorem JO(s:ah)(fr:Nat)(acc:List (Nat×Nat)):∀(k g pos:Nat),(∀j,j<k->pos+j<s.size/\s.get! (pos+j)≠32)->kJ s (g+k) pos fr acc=kJ s g (pos+k) fr acc
 |0,_,_,_=>rfl
 |k+1,g,pos,h=>by
  have h0:=h 0 (by omega);rw[kT] at h0
  rw[show g+(k+1)=(g+k)+1 by omega,kJ,aD h0,JO s fr acc k g (pos+1) (fun j hj=>by
   have:=h (j+1) (by omega)
   rwa [show pos+(j+1)=pos+1+j by omega] at this),show pos+1+k=pos+(k+1) by omega]
theorem Im(p:Nat->Bool)(s:ah)(f pos:Nat)(st:Option Nat)(acc:List (Nat×Nat))(h:pos<s.size):spansFromP p s (f+1) pos st acc=
  (if p (Utf8.decode s pos).1 then
    (match st with
     |some a=>spansFromP p s f (pos+(Utf8.decode s pos).2) none (acc++[(a,pos)])
     |none=>spansFromP p s f (pos+(Utf8.decode s pos).2) none acc)
    else
     (match st with
      |some a=>spansFromP p s f (pos+(Utf8.decode s pos).2) (some a) acc
      |none=>spansFromP p s f (pos+(Utf8.decode s pos).2) (some pos) acc)):=by
 conv=>lhs;unfold spansFromP
 rw[aD h]
 cases st<;>rfl
theorem Uw(s:ah):∀(n pos:Nat) (st:Option Nat) (acc:List (Nat×Nat)) (f g:Nat),s.size-pos<=n->pos<=s.size->(∀a,st=some a->a<pos)->s.size<=pos+f->s.size+1=pos+g->
  closeSpans s (spansFromP xh s f pos st acc)=kJ s g pos (st.getD pos) acc:=by
 intro n
 induction n with
 |zero=>
  intro pos st acc f g hn hp hst hf hg
  obtain rfl:pos=s.size:=by omega
  obtain rfl:g=1:=by omega
  rw[spansFromP_end _ _ _ _ _ _ (FU _)]
  cases st with
  |none=>simp[closeSpans,kJ]
  |some a=>simp[closeSpans,kJ,hst a rfl]
 |succ n ih=>
  intro pos st acc f g hn hp hst hf hg
  by_cases hlt:pos<s.size
  ·obtain⟨f',rfl⟩:∃f',f=f'+1:=⟨f-1,by omega⟩;obtain⟨g',rfl⟩:∃g',g=g'+1:=⟨g-1,by omega⟩;obtain⟨hb,hnb⟩:=Qc s pos hlt
   by_cases hc:s.get! pos=32
   ·rw[Im _ _ _ _ _ _ hlt,hb hc,aD (show xh 32=true from rfl),kJ,ax (fun h=>h.2 hc)]
    cases st with
    |none=>
     rw[ax (show¬(none:Option Nat).getD pos<pos by simp)];exact ih (pos+1) none acc f' g' (by omega) (by omega) (fun a h=>by cases h) (by omega) (by omega)
    |some a=>
     rw[aD (show(some a).getD pos<pos from hst a rfl)];exact ih (pos+1) none _ f' g' (by omega) (by omega) (fun a h=>by cases h) (by omega) (by omega)
   obtain⟨hr,h1,hj⟩:=hnb hc;have hlast:=(hj ((Utf8.decode s pos).2-1) (by omega)).1;rw[Im _ _ _ _ _ _ hlt,ax (show¬xh (Utf8.decode s pos).1=true by simpa[xh] using hr)];rw[show g'+1=(g'+1-(Utf8.decode s pos).2)+(Utf8.decode s pos).2 by omega,JO s _ acc _ _ pos hj]
   cases st with
   |none=>exact ih _ (some pos) acc f' _ (by omega) (by omega) (fun a h=>by cases h;omega) (by omega) (by omega)
   |some a=>exact ih _ (some a) acc f' _ (by omega) (by omega) (fun b h=>by cases h;have:=hst a rfl;omega) (by omega) (by omega)
  obtain rfl:pos=s.size:=by omega
  obtain rfl:g=1:=by omega
  rw[spansFromP_end _ _ _ _ _ _ (FU _)]
  cases st with
  |none=>simp[closeSpans,kJ]
  |some a=>simp[closeSpans,kJ,hst a rfl]
theorem Qj(s:ah):goFieldsP xh s=(zX s).map fun x=>s.extract x.1 x.2:=by
 unfold goFieldsP spansOfP zX;rw[Uw s s.size 0 none [] s.size (s.size+1) (by omega) (by omega) (fun a h=>by cases h) (by omega) (by omega)];rfl
