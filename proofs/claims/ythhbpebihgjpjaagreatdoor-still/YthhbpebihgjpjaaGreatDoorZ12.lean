import Derived.Test.YthhbpebihgjpjaaGreatDoorZ01
import Derived.Lib.FieldsP
import Derived.Lib.MapLaws
namespace Go.Proofs.YthhbpebihgjpjaaGreatDoor
set_option maxHeartbeats 20000000
set_option linter.all false
section
open Go.Lib
def kM(s:ah):Nat->Nat->Nat->List (Nat×Nat)->List (Nat×Nat)
 |0,_,_,acc=>acc
 |g+1,i,fr,acc=>if i<s.size/\s.get! i≠32 then kM s g (i+1) fr acc else kM s g (i+1) (i+1) (if fr<i then acc++[(fr,i)] else acc)
def zZ(s:ah):List (Nat×Nat):=kM s (s.size+1) 0 0 []
def xw(r:Nat):Bool:=r==32
theorem Qe(s:ah)(pos:Nat)(h:pos<s.size):(s.get! pos=32->Utf8.decode s pos=(32,1))/\
  (s.get! pos≠32->(Utf8.decode s pos).1≠32/\1<=(Utf8.decode s pos).2/\∀j,j<(Utf8.decode s pos).2->pos+j<s.size/\s.get! (pos+j)≠32):=by
 have h32:∀b:UInt8,b.toNat≠32->b≠32:=fun b hb e=>hb (by rw[e];rfl)
 rw[decode_at]
 constructor
 ·intro e;rw[e];rfl
 intro e
 have e':(s.get! pos).toNat≠32:=fun hb=>e (qh.1 hb)
 rcases decodeN_shape (s.size-pos) (s.get! pos).toNat (s.get! (pos+1)).toNat (s.get! (pos+2)).toNat (s.get! (pos+3)).toNat with ⟨_,hd⟩|⟨_,hn,h1,hr,hd⟩|⟨_,hn,h1,h2,hr,_,hd⟩|⟨_,hn,h1,h2,h3,hr,_,hd⟩|hd
 all_goals rw[hd]
 ·exact⟨e',ai _,fun j hj=>by
   obtain rfl:j=0:=by simp only at hj;omega
   exact⟨h,e⟩⟩
 ·refine⟨by simp only;omega,eB,fun j hj=>?_⟩;simp only at hj
  match j,hj with
  |0,_=>exact⟨h,e⟩
  |1,_=>exact⟨aJ,h32 _ aJ⟩
 ·refine⟨by simp only;omega,eB,fun j hj=>?_⟩;simp only at hj
  match j,hj with
  |0,_=>exact⟨h,e⟩
  |1,_=>exact⟨aJ,h32 _ aJ⟩
  |2,_=>exact⟨aJ,h32 _ aJ⟩
 ·refine⟨by simp only;omega,eB,fun j hj=>?_⟩;simp only at hj
  match j,hj with
  |0,_=>exact⟨h,e⟩
  |1,_=>exact⟨aJ,h32 _ aJ⟩
  |2,_=>exact⟨aJ,h32 _ aJ⟩
  |3,_=>exact⟨aJ,h32 _ aJ⟩
 exact⟨eB,ai _,fun j hj=>by
  obtain rfl:j=0:=by simp only at hj;omega
  exact⟨h,e⟩⟩
theorem JO(s:ah)(fr:Nat)(acc:List (Nat×Nat)):∀(k g pos:Nat),(∀j,j<k->pos+j<s.size/\s.get! (pos+j)≠32)->kM s (g+k) pos fr acc=kM s g (pos+k) fr acc
 |0,_,_,_=>rfl
 |k+1,g,pos,h=>by
  have h0:=h 0 aJ;rw[kX] at h0
  rw[show g+(k+1)=(g+k)+1 by omega,kM,aH h0,JO s fr acc k g (pos+1) (fun j hj=>by
   have:=h (j+1) aJ
   rwa [show pos+(j+1)=pos+1+j by omega] at this),show pos+1+k=pos+(k+1) by omega]
theorem Io(p:Nat->Bool)(s:ah)(f pos:Nat)(st:Option Nat)(acc:List (Nat×Nat))(h:pos<s.size):spansFromP p s (f+1) pos st acc=
  (if p (Utf8.decode s pos).1 then
    (match st with
     |some a=>spansFromP p s f (pos+(Utf8.decode s pos).2) none (acc++[(a,pos)])
     |none=>spansFromP p s f (pos+(Utf8.decode s pos).2) none acc)
    else
     (match st with
      |some a=>spansFromP p s f (pos+(Utf8.decode s pos).2) (some a) acc
      |none=>spansFromP p s f (pos+(Utf8.decode s pos).2) (some pos) acc)):=by
 conv=>lhs;unfold spansFromP
 rw[aH h]
 cases st<;>rfl
theorem Uz(s:ah):∀(n pos:Nat) (st:Option Nat) (acc:List (Nat×Nat)) (f g:Nat),s.size-pos<=n->pos<=s.size->(∀a,st=some a->a<pos)->s.size<=pos+f->s.size+1=pos+g->
  closeSpans s (spansFromP xw s f pos st acc)=kM s g pos (st.getD pos) acc:=by
 intro n
 induction n with
 |zero=>
  intro pos st acc f g hn hp hst hf hg
  obtain rfl:pos=s.size:=aJ
  obtain rfl:g=1:=aJ
  rw[spansFromP_end _ _ _ _ _ _ (FW _)]
  cases st with
  |none=>simp[closeSpans,kM]
  |some a=>simp[closeSpans,kM,hst a rfl]
 |succ n ih=>
  intro pos st acc f g hn hp hst hf hg
  by_cases hlt:pos<s.size
  ·obtain⟨f',rfl⟩:∃f',f=f'+1:=⟨f-1,aJ⟩;obtain⟨g',rfl⟩:∃g',g=g'+1:=⟨g-1,aJ⟩;obtain⟨hb,hnb⟩:=Qe s pos hlt
   by_cases hc:s.get! pos=32
   ·rw[Io _ _ _ _ _ _ hlt,hb hc,aH (show xw 32=true from rfl),kM,aA (fun h=>h.2 hc)]
    cases st with
    |none=>
     rw[aA (show¬(none:Option Nat).getD pos<pos by simp)];exact ih (pos+1) none acc f' g' aJ aJ (fun a h=>by cases h) aJ aJ
    |some a=>
     rw[aH (show(some a).getD pos<pos from hst a rfl)];exact ih (pos+1) none _ f' g' aJ aJ (fun a h=>by cases h) aJ aJ
   obtain⟨hr,h1,hj⟩:=hnb hc;have hlast:=(hj ((Utf8.decode s pos).2-1) aJ).1;rw[Io _ _ _ _ _ _ hlt,aA (show¬xw (Utf8.decode s pos).1=true by simpa[xw] using hr)];rw[show g'+1=(g'+1-(Utf8.decode s pos).2)+(Utf8.decode s pos).2 by omega,JO s _ acc _ _ pos hj]
   cases st with
   |none=>exact ih _ (some pos) acc f' _ aJ aJ (fun a h=>by cases h;omega) aJ aJ
   |some a=>exact ih _ (some a) acc f' _ aJ aJ (fun b h=>by cases h;have:=hst a rfl;omega) aJ aJ
  obtain rfl:pos=s.size:=aJ
  obtain rfl:g=1:=aJ
  rw[spansFromP_end _ _ _ _ _ _ (FW _)]
  cases st with
  |none=>simp[closeSpans,kM]
  |some a=>simp[closeSpans,kM,hst a rfl]
theorem Ql(s:ah):goFieldsP xw s=(zZ s).map fun x=>s.extract x.1 x.2:=by
 unfold goFieldsP spansOfP zZ;rw[Uz s s.size 0 none [] s.size (s.size+1) aJ aJ (fun a h=>by cases h) aJ aJ];rfl
end
end Go.Proofs.YthhbpebihgjpjaaGreatDoor
